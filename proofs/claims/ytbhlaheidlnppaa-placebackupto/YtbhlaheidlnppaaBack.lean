import Derived.Test.YtbhlaheidlnppaaBackp
namespace Go.Proofs.Ytbhlaheidlnppaa
open Go.RowKit

set_option maxRecDepth 1000000 in
set_option maxHeartbeats 8000000 in
theorem placeBack_any (s : ByteArray) (n row col : Int) (w : World) (hs : s.size ≤ 1099511627776) :
    Calls Try.prog 5 #[.string s, .int .i64 n, .agg #[.int .i64 row, .int .i64 col]] w fun e w' => e = .returned (.bool true) ∧ Below w.heap.size w w' := by
  have H : Hid _ := new_any s (w.alloc (.cells #[.int .i64 row, .int .i64 col] 33)) hs
  have HST : Hid _ := started_any
  have HS : Hid _ := hs
  clear hs
  go_enter Try.func5, Try.ntmps5
  go_wp2_with fail
  refine Calls.mono H.out ?_
  rintro e w1 ⟨b, T, rfl, hI, hb⟩
  have HI : Hid _ := hI
  have B1 : Hid _ := hb
  clear hI hb H
  go_wp2_with fail
  refine (HST.out _).mono ?_
  rintro e w2 ⟨rfl, hb⟩
  have HI2 : Hid _ := HI.out.mono hb
  have hb2 := below_trans B1.out hb
  have KP : Hid (w2.cell? ⟨w.heap.size, 0, none⟩ = some (.int .i64 row) ∧ w2.cell? ⟨w.heap.size, 1, none⟩ = some (.int .i64 col)) := ⟨below_cell hb2 (cells2 w (.int .i64 row) (.int .i64 col) 33).1, below_cell hb2 (cells2 w (.int .i64 row) (.int .i64 col) 33).2⟩
  have B2 : Hid (Below w.heap.size w w2) := below_trans (bel_up _ _) hb2
  clear hb hb2 HI B1 HST
  go_upto_if 23 with fail
  go_cut [1] from 24 (fun v1 wc => ∃ m : Int, v1 = .int .i64 m ∧ 0 ≤ m ∧ cl m s.size = cl n s.size ∧ wc = w2)
  case first =>
    by_cases h0 : n < 0
    · go_wp2_with fail
      go_meet
      exact ⟨0, rfl, by omega, by unfold cl; rw [if_neg (by omega), if_neg (by omega), if_pos h0], rfl⟩
    · go_wp2_with fail
      go_meet
      exact ⟨n, rfl, by omega, rfl, rfl⟩
  case rest =>
    obtain ⟨m, rfl, hm0, hmc, rfl⟩ := hcut
    go_upto_if 27 with fail
    obtain ⟨t, j, x, q1, e1, a1, a2, a3⟩ := HI2.out.find n
    go_cut [1] from 28 (fun v1 wd => v1 = .int .i64 (t : Int) ∧ wd = wc)
    case first =>
      by_cases h0 : (s.size : Int) < m
      · have ht : t = s.size := by
          rw [← hmc] at q1
          unfold cl at q1
          rw [if_neg (by omega), if_pos h0] at q1
          omega
        go_wp2_with fail
        go_meet
        exact ⟨by rw [ht], rfl⟩
      · have ht : (t : Int) = m := by
          rw [← hmc] at q1
          unfold cl at q1
          rw [if_neg (by omega), if_neg h0] at q1
          omega
        go_wp2_with fail
        go_meet
        exact ⟨by rw [ht], rfl⟩
    case rest =>
      obtain ⟨rfl, rfl⟩ := hcut
      have hct : cl (t : Int) s.size = t := cl_id (by omega) (by omega)
      obtain ⟨B, u, f1, f2, f3, f4, f5, f6, f7⟩ := back_at HI2.out.rw e1 a1 a2
      have hts : t ≤ 1099511627776 := by have := HS.out; omega
      have CP : Hid (∀ W, Below wc.heap.size wc W → Calls Try.prog 14 #[.pointer (some ⟨b, 0, none⟩), .int .i64 (t : Int)] W fun e w' => e = .returned (.agg #[.int .i64 (j : Int), .int .i64 ((t - x.1.1 : Nat) : Int)]) ∧ Below W.heap.size W w') := fun W hW => pos_any b s T t t j x W (HI2.out.mono hW) hct e1 a1 a2
      have CA : Hid (∀ W, Below wc.heap.size wc W → Calls Try.prog 16 #[.pointer (some ⟨b, 0, none⟩), .agg #[.int .i64 (j : Int), .int .i64 ((t - x.1.1 : Nat) : Int)]] W fun e w' => e = .returned (.int .i64 (t : Int)) ∧ Below W.heap.size W w') := fun W hW => by
        have := at_any b s T j ((t - x.1.1 : Nat) : Int) W (HI2.out.mono hW)
        rw [at_pos e1 (t - x.1.1) (by omega), show x.1.1 + (t - x.1.1) = t by omega] at this
        exact this
      have CW : Hid (∀ W, Below wc.heap.size wc W → Calls Try.prog 19 #[.pointer (some ⟨b, 0, none⟩), .int .i64 (t : Int)] W fun e w' => e = .returned (.agg #[.int .i64 (j : Int), .int .i64 (u : Int)]) ∧ Below W.heap.size W w') := fun W hW => by
        have := wide_any b s T t t j x W (HI2.out.mono hW) hct e1 a1 a2
        rw [f1] at this
        exact this
      have CT : Hid (∀ W, Below wc.heap.size wc W → Calls Try.prog 20 #[.pointer (some ⟨b, 0, none⟩), .agg #[.int .i64 (j : Int), .int .i64 (u : Int)]] W fun e w' => e = .returned (.int .i64 (B : Int)) ∧ Below W.heap.size W w') := fun W hW => by
        have := atWide_any b s T j u W (HI2.out.mono hW)
        rw [f2] at this
        exact this
      have CV : Hid (∀ W (y : Int), Below wc.heap.size wc W → (y = (B : Int) ∨ (B < t ∧ y = (B : Int) + 1)) → Calls Try.prog 19 #[.pointer (some ⟨b, 0, none⟩), .int .i64 y] W fun e w' => e = .returned (.agg #[.int .i64 (j : Int), .int .i64 (u : Int)]) ∧ Below W.heap.size W w') := fun W y hW hy => by
        rcases hy with rfl | ⟨hlt, rfl⟩
        · have := wide_any b s T B B j x W (HI2.out.mono hW) (cl_id (by omega) (by omega)) e1 f5 (by omega)
          rw [f6] at this
          exact this
        · have := wide_any b s T ((B : Int) + 1) (B + 1) j x W (HI2.out.mono hW) (by rw [cl_id (by omega) (by omega)]; omega) e1 (by omega) (by omega)
          rw [f7 hlt] at this
          exact this
      generalize ((t - x.1.1 : Nat) : Int) = c at CP CA
      have hf0 := fun (x y : Int) (W : World) => fld33_0 x y W
      have BF : Hid (B ≤ t ∧ t ≤ B + 3) := ⟨f3, f4⟩
      have hB2 : B ≤ 1099511627776 := by omega
      clear f1 f2 f5 f6 f7 hct e1 a1 a2 a3 q1 hmc hm0
      go_wp2_with fail
      refine (CP.out _ (Below.refl _ _)).mono ?_
      rintro e w3 ⟨rfl, hb⟩
      have D3 : Hid (Below wc.heap.size wc w3) := hb
      clear hb
      go_wp2_with fail
      refine (CA.out _ D3.out).mono ?_
      rintro e w4 ⟨rfl, hb⟩
      have D4 : Hid (Below wc.heap.size wc w4) := below_trans D3.out hb
      clear hb
      go_wp2_with fail
      refine (CW.out _ D4.out).mono ?_
      rintro e w5 ⟨rfl, hb⟩
      have D5 : Hid (Below wc.heap.size wc (w5.alloc (.cells #[.int .i64 (j : Int), .int .i64 (u : Int)] 33))) := below_trans (below_trans D4.out hb) (bel_up _ _)
      obtain ⟨k0, k1⟩ := cells2 w5 (.int .i64 (j : Int)) (.int .i64 (u : Int)) 33
      obtain ⟨W5, hW5⟩ : ∃ W5, W5 = w5.alloc (.cells #[.int .i64 (j : Int), .int .i64 (u : Int)] 33) := ⟨_, rfl⟩
      rw [← hW5] at D5 k0 k1
      have HE5 : Hid _ := hW5
      clear hb hW5
      go_wp2_with fail
      rw [← HE5.out]
      refine (CT.out _ D5.out).mono ?_
      rintro e w6 ⟨rfl, hb⟩
      have c0 := below_cell hb k0
      have c1 := below_cell hb k1
      have D6 : Hid (Below wc.heap.size wc w6) := below_trans D5.out hb
      clear hb k0 k1 HE5 D3 D4 D5 CA CW CT
      obtain ⟨w2', hw2'⟩ : ∃ w2', w2' = wc := ⟨_, rfl⟩
      subst hw2'
      go_upto_region 12 with fail
      go_cut [80] from 43 (fun v80 wd => v80 = .bool false ∧ Below w2'.heap.size w2' wd)
      case first =>
        have HP : Hid (∀ W, Below w6.heap.size w6 W → W.cell? ⟨w5.heap.size, 0, none⟩ = some (.int .i64 (j : Int)) ∧ W.cell? ⟨w5.heap.size, 1, none⟩ = some (.int .i64 (u : Int)) ∧ Below w6.heap.size w6 W) := fun W hW => ⟨below_cell hW c0, below_cell hW c1, hW⟩
        have HB : Hid (∀ W, (W.cell? ⟨w5.heap.size, 0, none⟩ = some (.int .i64 (j : Int)) ∧ W.cell? ⟨w5.heap.size, 1, none⟩ = some (.int .i64 (u : Int)) ∧ Below w6.heap.size w6 W) → Below w6.heap.size w6 W) := fun W h => h.2.2
        have wr1 : IntKind.i64.wrap ((t : Int) - (B : Int)) = (t : Int) - (B : Int) := by rw [IntKind.wrap_i64]; omega
        have wr2 : IntKind.i64.wrap ((B : Int) + 1) = (B : Int) + 1 := by rw [IntKind.wrap_i64]; omega
        have d1 : decide ((t : Int) < (B : Int)) = false := by rw [decide_eq_false_iff_not]; omega
        have d1n : decide (t < B) = false := by rw [decide_eq_false_iff_not]; omega
        have d2 : decide ((3 : Int) < (t : Int) - (B : Int)) = false := by rw [decide_eq_false_iff_not]; omega
        have CV2 : Hid (∀ W (y : Int), Below w6.heap.size w6 W → (y = (B : Int) ∨ (B < t ∧ y = (B : Int) + 1)) → Calls Try.prog 19 #[.pointer (some ⟨b, 0, none⟩), .int .i64 y] W fun e w' => e = .returned (.agg #[.int .i64 (j : Int), .int .i64 (u : Int)]) ∧ Below W.heap.size W w') := fun W y hW hy => CV.out W y (below_trans D6.out hW) hy
        have CP2 : Hid (∀ W, Below w6.heap.size w6 W → Calls Try.prog 14 #[.pointer (some ⟨b, 0, none⟩), .int .i64 (t : Int)] W fun e w' => e = .returned (.agg #[.int .i64 (j : Int), .int .i64 c]) ∧ Below W.heap.size W w') := fun W hW => CP.out W (below_trans D6.out hW)
        by_cases hlt : B < t
        · have d3 : decide ((B : Int) < (t : Int)) = true := by rw [decide_eq_true_eq]; omega
          have d3n : decide (B < t) = true := by rw [decide_eq_true_eq]; omega
          clear CV CP HI2 KP B2 HS BF f3 f4
          refine wp_region_noPanic ?_
          refine wp_region_held_drew (S := fun W => W.cell? ⟨w5.heap.size, 0, none⟩ = some (.int .i64 (j : Int)) ∧ W.cell? ⟨w5.heap.size, 1, none⟩ = some (.int .i64 (u : Int)) ∧ Below w6.heap.size w6 W) (by kernel_rfl) (HP.out _ (Below.drew (Below.refl _ _))) (fun hHeld => ?_)
          refine wpAnyH_take (i := 0) (oi := { dst := _, op := _, type := _, pos := _, after := _, guard := _ }) (v := ?_) rfl (by kernel_rfl) (by kernel_rfl) (by kernel_rfl) (fun _ _ _ h => h) (Or.inl ⟨by rfl, ?_⟩) (by assumption) ?_
          rotate_left
          · intro W hSw
            (try dsimp only at hSw)
            go_simp
            (try with_reducible rfl)
          try simp only [Act.put, List.setIfInBounds_toArray, List.set_cons_zero, List.set_cons_succ]
          refine wpAnyH_take (i := 1) (oi := { dst := _, op := _, type := _, pos := _, after := _, guard := _ }) (v := ?_) rfl (by kernel_rfl) (by kernel_rfl) (by kernel_rfl) (fun _ _ _ h => h) (Or.inl ⟨by rfl, ?_⟩) (by assumption) ?_
          rotate_left
          · intro W hSw
            (try dsimp only at hSw)
            go_simp
            (try with_reducible rfl)
          try simp only [Act.put, List.setIfInBounds_toArray, List.set_cons_zero, List.set_cons_succ]
          refine wpAnyH_take (i := 2) (oi := { dst := _, op := _, type := _, pos := _, after := _, guard := _ }) (v := ?_) rfl (by kernel_rfl) (by kernel_rfl) (by kernel_rfl) (fun _ _ _ h => h) (Or.inl ⟨by rfl, ?_⟩) (by assumption) ?_
          rotate_left
          · intro W hSw
            (try dsimp only at hSw)
            go_simp
            (try with_reducible rfl)
          try simp only [Act.put, List.setIfInBounds_toArray, List.set_cons_zero, List.set_cons_succ]
          refine wpAnyH_take (i := 3) (oi := { dst := _, op := _, type := _, pos := _, after := _, guard := _ }) (v := ?_) rfl (by kernel_rfl) (by kernel_rfl) (by kernel_rfl) (fun _ _ _ h => h) (Or.inl ⟨by rfl, ?_⟩) (by assumption) ?_
          rotate_left
          · intro W hSw
            (try dsimp only at hSw)
            go_simp
            (try with_reducible rfl)
          try simp only [Act.put, List.setIfInBounds_toArray, List.set_cons_zero, List.set_cons_succ]
          refine wpAnyH_ready (rs := [4]) (by kernel_rfl) (by simp) ?_
          refine AllReadyH.cons (o := { dst := _, op := _, type := _, pos := _, after := _, guard := _ }) rfl (fun K hK => ?_) AllReadyH.nil
          go_simp
          refine (CP2.out _ (Below.drew (Below.refl _ _))).mono ?_
          rintro ee Y1w ⟨rfl, hb⟩
          have Y1 : Hid (Below w6.heap.size w6 Y1w) := below_trans (Below.drew (Below.refl _ _)) hb
          clear hb
          go_wp2_with fail
          refine hK.out _ _ ?_ (fun hHeld => ?_)
          · (try dsimp only)
            exact HP.out _ Y1.out
          clear hK K
          try simp only [Act.put, List.setIfInBounds_toArray, List.set_cons_zero, List.set_cons_succ]
          refine wpAnyH_take (i := 5) (oi := { dst := _, op := _, type := _, pos := _, after := _, guard := _ }) (v := ?_) rfl (by kernel_rfl) (by kernel_rfl) (by kernel_rfl) (fun _ _ _ h => h) (Or.inl ⟨by rfl, ?_⟩) (by assumption) ?_
          rotate_left
          · intro W hSw
            (try dsimp only at hSw)
            go_simp
            (try with_reducible rfl)
          try simp only [Act.put, List.setIfInBounds_toArray, List.set_cons_zero, List.set_cons_succ]
          refine wpAnyH_take (i := 6) (oi := { dst := _, op := _, type := _, pos := _, after := _, guard := _ }) (v := ?_) rfl (by kernel_rfl) (by kernel_rfl) (by kernel_rfl) (fun _ _ _ h => h) (Or.inl ⟨by rfl, ?_⟩) (by assumption) ?_
          rotate_left
          · intro W hSw
            (try dsimp only at hSw)
            go_simp
            (try with_reducible rfl)
          try simp only [Act.put, List.setIfInBounds_toArray, List.set_cons_zero, List.set_cons_succ]
          refine wpAnyH_take (i := 7) (oi := { dst := _, op := _, type := _, pos := _, after := _, guard := _ }) (v := ?_) rfl (by kernel_rfl) (by kernel_rfl) (by kernel_rfl) (fun _ _ _ h => h) (Or.inl ⟨by rfl, ?_⟩) (by assumption) ?_
          rotate_left
          · intro W hSw
            (try dsimp only at hSw)
            go_simp
            (try with_reducible rfl)
          try simp only [Act.put, List.setIfInBounds_toArray, List.set_cons_zero, List.set_cons_succ]
          refine wpAnyH_take (i := 8) (oi := { dst := _, op := _, type := _, pos := _, after := _, guard := _ }) (v := ?_) rfl (by kernel_rfl) (by kernel_rfl) (by kernel_rfl) (fun _ _ _ h => h) (Or.inl ⟨by rfl, ?_⟩) (by assumption) ?_
          rotate_left
          · intro W hSw
            (try dsimp only at hSw)
            go_simp
            (try with_reducible rfl)
          try simp only [Act.put, List.setIfInBounds_toArray, List.set_cons_zero, List.set_cons_succ]
          refine wpAnyH_take (i := 9) (oi := { dst := _, op := _, type := _, pos := _, after := _, guard := _ }) (v := ?_) rfl (by kernel_rfl) (by kernel_rfl) (by kernel_rfl) (fun _ _ _ h => h) (Or.inl ⟨by rfl, ?_⟩) (by assumption) ?_
          rotate_left
          · intro W hSw
            (try dsimp only at hSw)
            go_simp
            (try with_reducible rfl)
          try simp only [Act.put, List.setIfInBounds_toArray, List.set_cons_zero, List.set_cons_succ]
          refine wpAnyH_take (i := 10) (oi := { dst := _, op := _, type := _, pos := _, after := _, guard := _ }) (v := ?_) rfl (by kernel_rfl) (by kernel_rfl) (by kernel_rfl) (fun _ _ _ h => h) (Or.inl ⟨by rfl, ?_⟩) (by assumption) ?_
          rotate_left
          · intro W hSw
            (try dsimp only at hSw)
            go_simp
            (try with_reducible rfl)
          try simp only [Act.put, List.setIfInBounds_toArray, List.set_cons_zero, List.set_cons_succ]
          refine wpAnyH_take (i := 11) (oi := { dst := _, op := _, type := _, pos := _, after := _, guard := _ }) (v := ?_) rfl (by kernel_rfl) (by kernel_rfl) (by kernel_rfl) (fun _ _ _ h => h) (Or.inl ⟨by rfl, ?_⟩) (by assumption) ?_
          rotate_left
          · intro W hSw
            (try dsimp only at hSw)
            go_simp
            (try with_reducible rfl)
          try simp only [Act.put, List.setIfInBounds_toArray, List.set_cons_zero, List.set_cons_succ]
          refine wpAnyH_take (i := 12) (oi := { dst := _, op := _, type := _, pos := _, after := _, guard := _ }) (v := ?_) rfl (by kernel_rfl) (by kernel_rfl) (by kernel_rfl) (fun _ _ _ h => h) (Or.inl ⟨by rfl, ?_⟩) (by assumption) ?_
          rotate_left
          · intro W hSw
            (try dsimp only at hSw)
            go_simp
            (try with_reducible rfl)
          try simp only [Act.put, List.setIfInBounds_toArray, List.set_cons_zero, List.set_cons_succ]
          refine wpAnyH_take (i := 13) (oi := { dst := _, op := _, type := _, pos := _, after := _, guard := _ }) (v := ?_) rfl (by kernel_rfl) (by kernel_rfl) (by kernel_rfl) (fun _ _ _ h => h) (Or.inl ⟨by rfl, ?_⟩) (by assumption) ?_
          rotate_left
          · intro W hSw
            (try dsimp only at hSw)
            go_simp
            (try with_reducible rfl)
          try simp only [Act.put, List.setIfInBounds_toArray, List.set_cons_zero, List.set_cons_succ]
          refine wpAnyH_take (i := 14) (oi := { dst := _, op := _, type := _, pos := _, after := _, guard := _ }) (v := ?_) rfl (by kernel_rfl) (by kernel_rfl) (by kernel_rfl) (fun _ _ _ h => h) (Or.inl ⟨by rfl, ?_⟩) (by assumption) ?_
          rotate_left
          · intro W hSw
            (try dsimp only at hSw)
            go_simp
            (try with_reducible rfl)
          try simp only [Act.put, List.setIfInBounds_toArray, List.set_cons_zero, List.set_cons_succ]
          refine wpAnyH_take (i := 15) (oi := { dst := _, op := _, type := _, pos := _, after := _, guard := _ }) (v := ?_) rfl (by kernel_rfl) (by kernel_rfl) (by kernel_rfl) (fun _ _ _ h => h) (Or.inl ⟨by rfl, ?_⟩) (by assumption) ?_
          rotate_left
          · intro W hSw
            (try dsimp only at hSw)
            go_simp
            (try with_reducible rfl)
          try simp only [Act.put, List.setIfInBounds_toArray, List.set_cons_zero, List.set_cons_succ]
          refine wpAnyH_take (i := 16) (oi := { dst := _, op := _, type := _, pos := _, after := _, guard := _ }) (v := ?_) rfl (by kernel_rfl) (by kernel_rfl) (by kernel_rfl) (fun _ _ _ h => h) (Or.inl ⟨by rfl, ?_⟩) (by assumption) ?_
          rotate_left
          · intro W hSw
            (try dsimp only at hSw)
            go_simp
            (try with_reducible rfl)
          try simp only [Act.put, List.setIfInBounds_toArray, List.set_cons_zero, List.set_cons_succ]
          refine wpAnyH_take (i := 17) (oi := { dst := _, op := _, type := _, pos := _, after := _, guard := _ }) (v := ?_) rfl (by kernel_rfl) (by kernel_rfl) (by kernel_rfl) (fun _ _ _ h => h) (Or.inl ⟨by rfl, ?_⟩) (by assumption) ?_
          rotate_left
          · intro W hSw
            (try dsimp only at hSw)
            go_simp
            (try with_reducible rfl)
          try simp only [Act.put, List.setIfInBounds_toArray, List.set_cons_zero, List.set_cons_succ]
          refine wpAnyH_take (i := 18) (oi := { dst := _, op := _, type := _, pos := _, after := _, guard := _ }) (v := ?_) rfl (by kernel_rfl) (by kernel_rfl) (by kernel_rfl) (fun _ _ _ h => h) (Or.inl ⟨by rfl, ?_⟩) (by assumption) ?_
          rotate_left
          · intro W hSw
            (try dsimp only at hSw)
            go_simp
            (try with_reducible rfl)
          try simp only [Act.put, List.setIfInBounds_toArray, List.set_cons_zero, List.set_cons_succ]
          refine wpAnyH_take (i := 19) (oi := { dst := _, op := _, type := _, pos := _, after := _, guard := _ }) (v := ?_) rfl (by kernel_rfl) (by kernel_rfl) (by kernel_rfl) (fun _ _ _ h => h) (Or.inl ⟨by rfl, ?_⟩) (by assumption) ?_
          rotate_left
          · intro W hSw
            (try dsimp only at hSw)
            go_simp
            (try with_reducible rfl)
          try simp only [Act.put, List.setIfInBounds_toArray, List.set_cons_zero, List.set_cons_succ]
          refine wpAnyH_take (i := 20) (oi := { dst := _, op := _, type := _, pos := _, after := _, guard := _ }) (v := ?_) rfl (by kernel_rfl) (by kernel_rfl) (by kernel_rfl) (fun _ _ _ h => h) (Or.inl ⟨by rfl, ?_⟩) (by assumption) ?_
          rotate_left
          · intro W hSw
            (try dsimp only at hSw)
            go_simp
            (try with_reducible rfl)
          try simp only [Act.put, List.setIfInBounds_toArray, List.set_cons_zero, List.set_cons_succ]
          refine wpAnyH_take (i := 22) (oi := { dst := _, op := _, type := _, pos := _, after := _, guard := _ }) (v := ?_) rfl (by kernel_rfl) (by kernel_rfl) (by kernel_rfl) (fun _ _ _ h => h) (Or.inl ⟨by rfl, ?_⟩) (by assumption) ?_
          rotate_left
          · intro W hSw
            (try dsimp only at hSw)
            go_simp
            (try with_reducible rfl)
          try simp only [Act.put, List.setIfInBounds_toArray, List.set_cons_zero, List.set_cons_succ]
          refine wpAnyH_ready (rs := [21]) (by kernel_rfl) (by simp) ?_
          refine AllReadyH.cons (o := { dst := _, op := _, type := _, pos := _, after := _, guard := _ }) rfl (fun K hK => ?_) AllReadyH.nil
          go_simp
          refine (CV2.out _ _ Y1.out (Or.inl rfl)).mono ?_
          rintro ee Y2w ⟨rfl, hb⟩
          have Y2 : Hid (Below w6.heap.size w6 Y2w) := below_trans Y1.out hb
          clear hb
          go_wp2_with fail
          refine hK.out _ _ ?_ (fun hHeld => ?_)
          · (try dsimp only)
            exact HP.out _ Y2.out
          clear hK K
          try simp only [Act.put, List.setIfInBounds_toArray, List.set_cons_zero, List.set_cons_succ]
          refine wpAnyH_take (i := 23) (oi := { dst := _, op := _, type := _, pos := _, after := _, guard := _ }) (v := ?_) rfl (by kernel_rfl) (by kernel_rfl) (by kernel_rfl) (fun _ _ _ h => h) (Or.inl ⟨by rfl, ?_⟩) (by assumption) ?_
          rotate_left
          · intro W hSw
            (try dsimp only at hSw)
            go_simp
            (try with_reducible rfl)
          try simp only [Act.put, List.setIfInBounds_toArray, List.set_cons_zero, List.set_cons_succ]
          refine wpAnyH_take (i := 24) (oi := { dst := _, op := _, type := _, pos := _, after := _, guard := _ }) (v := ?_) rfl (by kernel_rfl) (by kernel_rfl) (by kernel_rfl) (fun _ _ _ h => h) (Or.inl ⟨by rfl, ?_⟩) (by assumption) ?_
          rotate_left
          · intro W hSw
            (try dsimp only at hSw)
            go_simp
            (try with_reducible rfl)
          try simp only [Act.put, List.setIfInBounds_toArray, List.set_cons_zero, List.set_cons_succ]
          refine wpAnyH_take (i := 25) (oi := { dst := _, op := _, type := _, pos := _, after := _, guard := _ }) (v := ?_) rfl (by kernel_rfl) (by kernel_rfl) (by kernel_rfl) (fun _ _ _ h => h) (Or.inl ⟨by rfl, ?_⟩) (by assumption) ?_
          rotate_left
          · intro W hSw
            (try dsimp only at hSw)
            go_simp
            (try with_reducible rfl)
          try simp only [Act.put, List.setIfInBounds_toArray, List.set_cons_zero, List.set_cons_succ]
          refine wpAnyH_take (i := 26) (oi := { dst := _, op := _, type := _, pos := _, after := _, guard := _ }) (v := ?_) rfl (by kernel_rfl) (by kernel_rfl) (by kernel_rfl) (fun _ _ _ h => h) (Or.inl ⟨by rfl, ?_⟩) (by assumption) ?_
          rotate_left
          · intro W hSw
            (try dsimp only at hSw)
            go_simp
            (try with_reducible rfl)
          try simp only [Act.put, List.setIfInBounds_toArray, List.set_cons_zero, List.set_cons_succ]
          refine wpAnyH_take (i := 27) (oi := { dst := _, op := _, type := _, pos := _, after := _, guard := _ }) (v := ?_) rfl (by kernel_rfl) (by kernel_rfl) (by kernel_rfl) (fun _ _ _ h => h) (Or.inl ⟨by rfl, ?_⟩) (by assumption) ?_
          rotate_left
          · intro W hSw
            (try dsimp only at hSw)
            go_simp
            (try with_reducible rfl)
          try simp only [Act.put, List.setIfInBounds_toArray, List.set_cons_zero, List.set_cons_succ]
          refine wpAnyH_take (i := 28) (oi := { dst := _, op := _, type := _, pos := _, after := _, guard := _ }) (v := ?_) rfl (by kernel_rfl) (by kernel_rfl) (by kernel_rfl) (fun _ _ _ h => h) (Or.inl ⟨by rfl, ?_⟩) (by assumption) ?_
          rotate_left
          · intro W hSw
            (try dsimp only at hSw)
            go_simp
            (try with_reducible rfl)
          try simp only [Act.put, List.setIfInBounds_toArray, List.set_cons_zero, List.set_cons_succ]
          refine wpAnyH_take (i := 29) (oi := { dst := _, op := _, type := _, pos := _, after := _, guard := _ }) (v := ?_) rfl (by kernel_rfl) (by kernel_rfl) (by kernel_rfl) (fun _ _ _ h => h) (Or.inl ⟨by rfl, ?_⟩) (by assumption) ?_
          rotate_left
          · intro W hSw
            (try dsimp only at hSw)
            go_simp
            (try with_reducible rfl)
          try simp only [Act.put, List.setIfInBounds_toArray, List.set_cons_zero, List.set_cons_succ]
          refine wpAnyH_take (i := 30) (oi := { dst := _, op := _, type := _, pos := _, after := _, guard := _ }) (v := ?_) rfl (by kernel_rfl) (by kernel_rfl) (by kernel_rfl) (fun _ _ _ h => h) (Or.inl ⟨by rfl, ?_⟩) (by assumption) ?_
          rotate_left
          · intro W hSw
            (try dsimp only at hSw)
            go_simp
            (try with_reducible rfl)
          try simp only [Act.put, List.setIfInBounds_toArray, List.set_cons_zero, List.set_cons_succ]
          refine wpAnyH_take (i := 31) (oi := { dst := _, op := _, type := _, pos := _, after := _, guard := _ }) (v := ?_) rfl (by kernel_rfl) (by kernel_rfl) (by kernel_rfl) (fun _ _ _ h => h) (Or.inl ⟨by rfl, ?_⟩) (by assumption) ?_
          rotate_left
          · intro W hSw
            (try dsimp only at hSw)
            go_simp
            (try with_reducible rfl)
          try simp only [Act.put, List.setIfInBounds_toArray, List.set_cons_zero, List.set_cons_succ]
          refine wpAnyH_take (i := 32) (oi := { dst := _, op := _, type := _, pos := _, after := _, guard := _ }) (v := ?_) rfl (by kernel_rfl) (by kernel_rfl) (by kernel_rfl) (fun _ _ _ h => h) (Or.inl ⟨by rfl, ?_⟩) (by assumption) ?_
          rotate_left
          · intro W hSw
            (try dsimp only at hSw)
            go_simp
            (try with_reducible rfl)
          try simp only [Act.put, List.setIfInBounds_toArray, List.set_cons_zero, List.set_cons_succ]
          refine wpAnyH_take (i := 34) (oi := { dst := _, op := _, type := _, pos := _, after := _, guard := _ }) (v := ?_) rfl (by kernel_rfl) (by kernel_rfl) (by kernel_rfl) (fun _ _ _ h => h) (Or.inl ⟨by rfl, ?_⟩) (by assumption) ?_
          rotate_left
          · intro W hSw
            (try dsimp only at hSw)
            go_simp
            (try with_reducible rfl)
          try simp only [Act.put, List.setIfInBounds_toArray, List.set_cons_zero, List.set_cons_succ]
          refine wpAnyH_ready (rs := [33]) (by kernel_rfl) (by simp) ?_
          refine AllReadyH.cons (o := { dst := _, op := _, type := _, pos := _, after := _, guard := _ }) rfl (fun K hK => ?_) AllReadyH.nil
          go_simp
          refine (CV2.out _ _ Y2.out (Or.inr ⟨hlt, rfl⟩)).mono ?_
          rintro ee Y3w ⟨rfl, hb⟩
          have Y3 : Hid (Below w6.heap.size w6 Y3w) := below_trans Y2.out hb
          clear hb
          go_wp2_with fail
          refine hK.out _ _ ?_ (fun hHeld => ?_)
          · (try dsimp only)
            exact HP.out _ Y3.out
          clear hK K
          try simp only [Act.put, List.setIfInBounds_toArray, List.set_cons_zero, List.set_cons_succ]
          refine wpAnyH_take (i := 35) (oi := { dst := _, op := _, type := _, pos := _, after := _, guard := _ }) (v := ?_) rfl (by kernel_rfl) (by kernel_rfl) (by kernel_rfl) (fun _ _ _ h => h) (Or.inl ⟨by rfl, ?_⟩) (by assumption) ?_
          rotate_left
          · intro W hSw
            (try dsimp only at hSw)
            go_simp
            (try with_reducible rfl)
          try simp only [Act.put, List.setIfInBounds_toArray, List.set_cons_zero, List.set_cons_succ]
          refine wpAnyH_take (i := 36) (oi := { dst := _, op := _, type := _, pos := _, after := _, guard := _ }) (v := ?_) rfl (by kernel_rfl) (by kernel_rfl) (by kernel_rfl) (fun _ _ _ h => h) (Or.inl ⟨by rfl, ?_⟩) (by assumption) ?_
          rotate_left
          · intro W hSw
            (try dsimp only at hSw)
            go_simp
            (try with_reducible rfl)
          try simp only [Act.put, List.setIfInBounds_toArray, List.set_cons_zero, List.set_cons_succ]
          refine wpAnyH_take (i := 37) (oi := { dst := _, op := _, type := _, pos := _, after := _, guard := _ }) (v := ?_) rfl (by kernel_rfl) (by kernel_rfl) (by kernel_rfl) (fun _ _ _ h => h) (Or.inl ⟨by rfl, ?_⟩) (by assumption) ?_
          rotate_left
          · intro W hSw
            (try dsimp only at hSw)
            go_simp
            (try with_reducible rfl)
          try simp only [Act.put, List.setIfInBounds_toArray, List.set_cons_zero, List.set_cons_succ]
          refine wpAnyH_done (by kernel_rfl) ?_ _
          refine NoPanic.normal ?_
          go_wp2_with fail
          go_meet
          exact ⟨by simp, below_trans D6.out Y3.out⟩
        · have hBt : B = t := by omega
          subst hBt
          have wr0 : IntKind.i64.wrap 0 = 0 := by decide
          clear hlt d1 d1n d2 wr1
          clear CV CP HI2 KP B2 HS BF f3 f4
          refine wp_region_noPanic ?_
          refine wp_region_held_drew (S := fun W => W.cell? ⟨w5.heap.size, 0, none⟩ = some (.int .i64 (j : Int)) ∧ W.cell? ⟨w5.heap.size, 1, none⟩ = some (.int .i64 (u : Int)) ∧ Below w6.heap.size w6 W) (by kernel_rfl) (HP.out _ (Below.drew (Below.refl _ _))) (fun hHeld => ?_)
          refine wpAnyH_take (i := 0) (oi := { dst := _, op := _, type := _, pos := _, after := _, guard := _ }) (v := ?_) rfl (by kernel_rfl) (by kernel_rfl) (by kernel_rfl) (fun _ _ _ h => h) (Or.inl ⟨by rfl, ?_⟩) (by assumption) ?_
          rotate_left
          · intro W hSw
            (try dsimp only at hSw)
            go_simp
            (try with_reducible rfl)
          try simp only [Act.put, List.setIfInBounds_toArray, List.set_cons_zero, List.set_cons_succ]
          refine wpAnyH_take (i := 1) (oi := { dst := _, op := _, type := _, pos := _, after := _, guard := _ }) (v := ?_) rfl (by kernel_rfl) (by kernel_rfl) (by kernel_rfl) (fun _ _ _ h => h) (Or.inl ⟨by rfl, ?_⟩) (by assumption) ?_
          rotate_left
          · intro W hSw
            (try dsimp only at hSw)
            go_simp
            (try with_reducible rfl)
          try simp only [Act.put, List.setIfInBounds_toArray, List.set_cons_zero, List.set_cons_succ]
          refine wpAnyH_take (i := 2) (oi := { dst := _, op := _, type := _, pos := _, after := _, guard := _ }) (v := ?_) rfl (by kernel_rfl) (by kernel_rfl) (by kernel_rfl) (fun _ _ _ h => h) (Or.inl ⟨by rfl, ?_⟩) (by assumption) ?_
          rotate_left
          · intro W hSw
            (try dsimp only at hSw)
            go_simp
            (try with_reducible rfl)
          try simp only [Act.put, List.setIfInBounds_toArray, List.set_cons_zero, List.set_cons_succ]
          refine wpAnyH_take (i := 3) (oi := { dst := _, op := _, type := _, pos := _, after := _, guard := _ }) (v := ?_) rfl (by kernel_rfl) (by kernel_rfl) (by kernel_rfl) (fun _ _ _ h => h) (Or.inl ⟨by rfl, ?_⟩) (by assumption) ?_
          rotate_left
          · intro W hSw
            (try dsimp only at hSw)
            go_simp
            (try with_reducible rfl)
          try simp only [Act.put, List.setIfInBounds_toArray, List.set_cons_zero, List.set_cons_succ]
          refine wpAnyH_ready (rs := [4]) (by kernel_rfl) (by simp) ?_
          refine AllReadyH.cons (o := { dst := _, op := _, type := _, pos := _, after := _, guard := _ }) rfl (fun K hK => ?_) AllReadyH.nil
          go_simp
          refine (CP2.out _ (Below.drew (Below.refl _ _))).mono ?_
          rintro ee Y1w ⟨rfl, hb⟩
          have Y1 : Hid (Below w6.heap.size w6 Y1w) := below_trans (Below.drew (Below.refl _ _)) hb
          clear hb
          go_wp2_with fail
          refine hK.out _ _ ?_ (fun hHeld => ?_)
          · (try dsimp only)
            exact HP.out _ Y1.out
          clear hK K
          try simp only [Act.put, List.setIfInBounds_toArray, List.set_cons_zero, List.set_cons_succ]
          refine wpAnyH_take (i := 5) (oi := { dst := _, op := _, type := _, pos := _, after := _, guard := _ }) (v := ?_) rfl (by kernel_rfl) (by kernel_rfl) (by kernel_rfl) (fun _ _ _ h => h) (Or.inl ⟨by rfl, ?_⟩) (by assumption) ?_
          rotate_left
          · intro W hSw
            (try dsimp only at hSw)
            go_simp
            (try with_reducible rfl)
          try simp only [Act.put, List.setIfInBounds_toArray, List.set_cons_zero, List.set_cons_succ]
          refine wpAnyH_take (i := 6) (oi := { dst := _, op := _, type := _, pos := _, after := _, guard := _ }) (v := ?_) rfl (by kernel_rfl) (by kernel_rfl) (by kernel_rfl) (fun _ _ _ h => h) (Or.inl ⟨by rfl, ?_⟩) (by assumption) ?_
          rotate_left
          · intro W hSw
            (try dsimp only at hSw)
            go_simp
            (try with_reducible rfl)
          try simp only [Act.put, List.setIfInBounds_toArray, List.set_cons_zero, List.set_cons_succ]
          refine wpAnyH_take (i := 7) (oi := { dst := _, op := _, type := _, pos := _, after := _, guard := _ }) (v := ?_) rfl (by kernel_rfl) (by kernel_rfl) (by kernel_rfl) (fun _ _ _ h => h) (Or.inl ⟨by rfl, ?_⟩) (by assumption) ?_
          rotate_left
          · intro W hSw
            (try dsimp only at hSw)
            go_simp
            (try with_reducible rfl)
          try simp only [Act.put, List.setIfInBounds_toArray, List.set_cons_zero, List.set_cons_succ]
          refine wpAnyH_take (i := 8) (oi := { dst := _, op := _, type := _, pos := _, after := _, guard := _ }) (v := ?_) rfl (by kernel_rfl) (by kernel_rfl) (by kernel_rfl) (fun _ _ _ h => h) (Or.inl ⟨by rfl, ?_⟩) (by assumption) ?_
          rotate_left
          · intro W hSw
            (try dsimp only at hSw)
            go_simp
            (try with_reducible rfl)
          try simp only [Act.put, List.setIfInBounds_toArray, List.set_cons_zero, List.set_cons_succ]
          refine wpAnyH_take (i := 9) (oi := { dst := _, op := _, type := _, pos := _, after := _, guard := _ }) (v := ?_) rfl (by kernel_rfl) (by kernel_rfl) (by kernel_rfl) (fun _ _ _ h => h) (Or.inl ⟨by rfl, ?_⟩) (by assumption) ?_
          rotate_left
          · intro W hSw
            (try dsimp only at hSw)
            go_simp
            (try with_reducible rfl)
          try simp only [Act.put, List.setIfInBounds_toArray, List.set_cons_zero, List.set_cons_succ]
          refine wpAnyH_take (i := 10) (oi := { dst := _, op := _, type := _, pos := _, after := _, guard := _ }) (v := ?_) rfl (by kernel_rfl) (by kernel_rfl) (by kernel_rfl) (fun _ _ _ h => h) (Or.inl ⟨by rfl, ?_⟩) (by assumption) ?_
          rotate_left
          · intro W hSw
            (try dsimp only at hSw)
            go_simp
            (try with_reducible rfl)
          try simp only [Act.put, List.setIfInBounds_toArray, List.set_cons_zero, List.set_cons_succ]
          refine wpAnyH_take (i := 11) (oi := { dst := _, op := _, type := _, pos := _, after := _, guard := _ }) (v := ?_) rfl (by kernel_rfl) (by kernel_rfl) (by kernel_rfl) (fun _ _ _ h => h) (Or.inl ⟨by rfl, ?_⟩) (by assumption) ?_
          rotate_left
          · intro W hSw
            (try dsimp only at hSw)
            go_simp
            (try with_reducible rfl)
          try simp only [Act.put, List.setIfInBounds_toArray, List.set_cons_zero, List.set_cons_succ]
          refine wpAnyH_take (i := 12) (oi := { dst := _, op := _, type := _, pos := _, after := _, guard := _ }) (v := ?_) rfl (by kernel_rfl) (by kernel_rfl) (by kernel_rfl) (fun _ _ _ h => h) (Or.inl ⟨by rfl, ?_⟩) (by assumption) ?_
          rotate_left
          · intro W hSw
            (try dsimp only at hSw)
            go_simp
            (try with_reducible rfl)
          try simp only [Act.put, List.setIfInBounds_toArray, List.set_cons_zero, List.set_cons_succ]
          refine wpAnyH_take (i := 13) (oi := { dst := _, op := _, type := _, pos := _, after := _, guard := _ }) (v := ?_) rfl (by kernel_rfl) (by kernel_rfl) (by kernel_rfl) (fun _ _ _ h => h) (Or.inl ⟨by rfl, ?_⟩) (by assumption) ?_
          rotate_left
          · intro W hSw
            (try dsimp only at hSw)
            go_simp
            (try with_reducible rfl)
          try simp only [Act.put, List.setIfInBounds_toArray, List.set_cons_zero, List.set_cons_succ]
          refine wpAnyH_take (i := 14) (oi := { dst := _, op := _, type := _, pos := _, after := _, guard := _ }) (v := ?_) rfl (by kernel_rfl) (by kernel_rfl) (by kernel_rfl) (fun _ _ _ h => h) (Or.inl ⟨by rfl, ?_⟩) (by assumption) ?_
          rotate_left
          · intro W hSw
            (try dsimp only at hSw)
            go_simp
            (try with_reducible rfl)
          try simp only [Act.put, List.setIfInBounds_toArray, List.set_cons_zero, List.set_cons_succ]
          refine wpAnyH_take (i := 15) (oi := { dst := _, op := _, type := _, pos := _, after := _, guard := _ }) (v := ?_) rfl (by kernel_rfl) (by kernel_rfl) (by kernel_rfl) (fun _ _ _ h => h) (Or.inl ⟨by rfl, ?_⟩) (by assumption) ?_
          rotate_left
          · intro W hSw
            (try dsimp only at hSw)
            go_simp
            (try with_reducible rfl)
          try simp only [Act.put, List.setIfInBounds_toArray, List.set_cons_zero, List.set_cons_succ]
          refine wpAnyH_take (i := 16) (oi := { dst := _, op := _, type := _, pos := _, after := _, guard := _ }) (v := ?_) rfl (by kernel_rfl) (by kernel_rfl) (by kernel_rfl) (fun _ _ _ h => h) (Or.inl ⟨by rfl, ?_⟩) (by assumption) ?_
          rotate_left
          · intro W hSw
            (try dsimp only at hSw)
            go_simp
            (try with_reducible rfl)
          try simp only [Act.put, List.setIfInBounds_toArray, List.set_cons_zero, List.set_cons_succ]
          refine wpAnyH_take (i := 17) (oi := { dst := _, op := _, type := _, pos := _, after := _, guard := _ }) (v := ?_) rfl (by kernel_rfl) (by kernel_rfl) (by kernel_rfl) (fun _ _ _ h => h) (Or.inl ⟨by rfl, ?_⟩) (by assumption) ?_
          rotate_left
          · intro W hSw
            (try dsimp only at hSw)
            go_simp
            (try with_reducible rfl)
          try simp only [Act.put, List.setIfInBounds_toArray, List.set_cons_zero, List.set_cons_succ]
          refine wpAnyH_take (i := 18) (oi := { dst := _, op := _, type := _, pos := _, after := _, guard := _ }) (v := ?_) rfl (by kernel_rfl) (by kernel_rfl) (by kernel_rfl) (fun _ _ _ h => h) (Or.inl ⟨by rfl, ?_⟩) (by assumption) ?_
          rotate_left
          · intro W hSw
            (try dsimp only at hSw)
            go_simp
            (try with_reducible rfl)
          try simp only [Act.put, List.setIfInBounds_toArray, List.set_cons_zero, List.set_cons_succ]
          refine wpAnyH_take (i := 19) (oi := { dst := _, op := _, type := _, pos := _, after := _, guard := _ }) (v := ?_) rfl (by kernel_rfl) (by kernel_rfl) (by kernel_rfl) (fun _ _ _ h => h) (Or.inl ⟨by rfl, ?_⟩) (by assumption) ?_
          rotate_left
          · intro W hSw
            (try dsimp only at hSw)
            go_simp
            (try with_reducible rfl)
          try simp only [Act.put, List.setIfInBounds_toArray, List.set_cons_zero, List.set_cons_succ]
          refine wpAnyH_take (i := 20) (oi := { dst := _, op := _, type := _, pos := _, after := _, guard := _ }) (v := ?_) rfl (by kernel_rfl) (by kernel_rfl) (by kernel_rfl) (fun _ _ _ h => h) (Or.inl ⟨by rfl, ?_⟩) (by assumption) ?_
          rotate_left
          · intro W hSw
            (try dsimp only at hSw)
            go_simp
            (try with_reducible rfl)
          try simp only [Act.put, List.setIfInBounds_toArray, List.set_cons_zero, List.set_cons_succ]
          refine wpAnyH_take (i := 22) (oi := { dst := _, op := _, type := _, pos := _, after := _, guard := _ }) (v := ?_) rfl (by kernel_rfl) (by kernel_rfl) (by kernel_rfl) (fun _ _ _ h => h) (Or.inl ⟨by rfl, ?_⟩) (by assumption) ?_
          rotate_left
          · intro W hSw
            (try dsimp only at hSw)
            go_simp
            (try with_reducible rfl)
          try simp only [Act.put, List.setIfInBounds_toArray, List.set_cons_zero, List.set_cons_succ]
          refine wpAnyH_ready (rs := [21]) (by kernel_rfl) (by simp) ?_
          refine AllReadyH.cons (o := { dst := _, op := _, type := _, pos := _, after := _, guard := _ }) rfl (fun K hK => ?_) AllReadyH.nil
          go_simp
          refine (CV2.out _ _ Y1.out (Or.inl rfl)).mono ?_
          rintro ee Y2w ⟨rfl, hb⟩
          have Y2 : Hid (Below w6.heap.size w6 Y2w) := below_trans Y1.out hb
          clear hb
          go_wp2_with fail
          refine hK.out _ _ ?_ (fun hHeld => ?_)
          · (try dsimp only)
            exact HP.out _ Y2.out
          clear hK K
          try simp only [Act.put, List.setIfInBounds_toArray, List.set_cons_zero, List.set_cons_succ]
          refine wpAnyH_take (i := 23) (oi := { dst := _, op := _, type := _, pos := _, after := _, guard := _ }) (v := ?_) rfl (by kernel_rfl) (by kernel_rfl) (by kernel_rfl) (fun _ _ _ h => h) (Or.inl ⟨by rfl, ?_⟩) (by assumption) ?_
          rotate_left
          · intro W hSw
            (try dsimp only at hSw)
            go_simp
            (try with_reducible rfl)
          try simp only [Act.put, List.setIfInBounds_toArray, List.set_cons_zero, List.set_cons_succ]
          refine wpAnyH_take (i := 24) (oi := { dst := _, op := _, type := _, pos := _, after := _, guard := _ }) (v := ?_) rfl (by kernel_rfl) (by kernel_rfl) (by kernel_rfl) (fun _ _ _ h => h) (Or.inl ⟨by rfl, ?_⟩) (by assumption) ?_
          rotate_left
          · intro W hSw
            (try dsimp only at hSw)
            go_simp
            (try with_reducible rfl)
          try simp only [Act.put, List.setIfInBounds_toArray, List.set_cons_zero, List.set_cons_succ]
          refine wpAnyH_take (i := 25) (oi := { dst := _, op := _, type := _, pos := _, after := _, guard := _ }) (v := ?_) rfl (by kernel_rfl) (by kernel_rfl) (by kernel_rfl) (fun _ _ _ h => h) (Or.inl ⟨by rfl, ?_⟩) (by assumption) ?_
          rotate_left
          · intro W hSw
            (try dsimp only at hSw)
            go_simp
            (try with_reducible rfl)
          try simp only [Act.put, List.setIfInBounds_toArray, List.set_cons_zero, List.set_cons_succ]
          refine wpAnyH_take (i := 26) (oi := { dst := _, op := _, type := _, pos := _, after := _, guard := _ }) (v := ?_) rfl (by kernel_rfl) (by kernel_rfl) (by kernel_rfl) (fun _ _ _ h => h) (Or.inl ⟨by rfl, ?_⟩) (by assumption) ?_
          rotate_left
          · intro W hSw
            (try dsimp only at hSw)
            go_simp
            (try with_reducible rfl)
          try simp only [Act.put, List.setIfInBounds_toArray, List.set_cons_zero, List.set_cons_succ]
          refine wpAnyH_take (i := 27) (oi := { dst := _, op := _, type := _, pos := _, after := _, guard := _ }) (v := ?_) rfl (by kernel_rfl) (by kernel_rfl) (by kernel_rfl) (fun _ _ _ h => h) (Or.inl ⟨by rfl, ?_⟩) (by assumption) ?_
          rotate_left
          · intro W hSw
            (try dsimp only at hSw)
            go_simp
            (try with_reducible rfl)
          try simp only [Act.put, List.setIfInBounds_toArray, List.set_cons_zero, List.set_cons_succ]
          refine wpAnyH_take (i := 28) (oi := { dst := _, op := _, type := _, pos := _, after := _, guard := _ }) (v := ?_) rfl (by kernel_rfl) (by kernel_rfl) (by kernel_rfl) (fun _ _ _ h => h) (Or.inl ⟨by rfl, ?_⟩) (by assumption) ?_
          rotate_left
          · intro W hSw
            (try dsimp only at hSw)
            go_simp
            (try with_reducible rfl)
          try simp only [Act.put, List.setIfInBounds_toArray, List.set_cons_zero, List.set_cons_succ]
          refine wpAnyH_take (i := 29) (oi := { dst := _, op := _, type := _, pos := _, after := _, guard := _ }) (v := ?_) rfl (by kernel_rfl) (by kernel_rfl) (by kernel_rfl) (fun _ _ _ h => h) (Or.inl ⟨by rfl, ?_⟩) (by assumption) ?_
          rotate_left
          · intro W hSw
            (try dsimp only at hSw)
            go_simp
            (try with_reducible rfl)
          try simp only [Act.put, List.setIfInBounds_toArray, List.set_cons_zero, List.set_cons_succ]
          refine wpAnyH_take (i := 30) (oi := { dst := _, op := _, type := _, pos := _, after := _, guard := _ }) rfl (by kernel_rfl) (by kernel_rfl) (by kernel_rfl) (fun _ _ _ h => h) (Or.inr ⟨by rfl, rfl⟩) (by assumption) ?_
          try simp only [Act.put, List.setIfInBounds_toArray, List.set_cons_zero, List.set_cons_succ]
          refine wpAnyH_take (i := 31) (oi := { dst := _, op := _, type := _, pos := _, after := _, guard := _ }) rfl (by kernel_rfl) (by kernel_rfl) (by kernel_rfl) (fun _ _ _ h => h) (Or.inr ⟨by rfl, rfl⟩) (by assumption) ?_
          try simp only [Act.put, List.setIfInBounds_toArray, List.set_cons_zero, List.set_cons_succ]
          refine wpAnyH_take (i := 32) (oi := { dst := _, op := _, type := _, pos := _, after := _, guard := _ }) rfl (by kernel_rfl) (by kernel_rfl) (by kernel_rfl) (fun _ _ _ h => h) (Or.inr ⟨by rfl, rfl⟩) (by assumption) ?_
          try simp only [Act.put, List.setIfInBounds_toArray, List.set_cons_zero, List.set_cons_succ]
          refine wpAnyH_take (i := 33) (oi := { dst := _, op := _, type := _, pos := _, after := _, guard := _ }) rfl (by kernel_rfl) (by kernel_rfl) (by kernel_rfl) (fun _ _ _ h => h) (Or.inr ⟨by rfl, rfl⟩) (by assumption) ?_
          try simp only [Act.put, List.setIfInBounds_toArray, List.set_cons_zero, List.set_cons_succ]
          refine wpAnyH_take (i := 34) (oi := { dst := _, op := _, type := _, pos := _, after := _, guard := _ }) rfl (by kernel_rfl) (by kernel_rfl) (by kernel_rfl) (fun _ _ _ h => h) (Or.inr ⟨by rfl, rfl⟩) (by assumption) ?_
          try simp only [Act.put, List.setIfInBounds_toArray, List.set_cons_zero, List.set_cons_succ]
          refine wpAnyH_take (i := 35) (oi := { dst := _, op := _, type := _, pos := _, after := _, guard := _ }) rfl (by kernel_rfl) (by kernel_rfl) (by kernel_rfl) (fun _ _ _ h => h) (Or.inr ⟨by rfl, rfl⟩) (by assumption) ?_
          try simp only [Act.put, List.setIfInBounds_toArray, List.set_cons_zero, List.set_cons_succ]
          refine wpAnyH_take (i := 36) (oi := { dst := _, op := _, type := _, pos := _, after := _, guard := _ }) (v := ?_) rfl (by kernel_rfl) (by kernel_rfl) (by kernel_rfl) (fun _ _ _ h => h) (Or.inl ⟨by rfl, ?_⟩) (by assumption) ?_
          rotate_left
          · intro W hSw
            (try dsimp only at hSw)
            go_simp
            (try with_reducible rfl)
          try simp only [Act.put, List.setIfInBounds_toArray, List.set_cons_zero, List.set_cons_succ]
          refine wpAnyH_take (i := 37) (oi := { dst := _, op := _, type := _, pos := _, after := _, guard := _ }) (v := ?_) rfl (by kernel_rfl) (by kernel_rfl) (by kernel_rfl) (fun _ _ _ h => h) (Or.inl ⟨by rfl, ?_⟩) (by assumption) ?_
          rotate_left
          · intro W hSw
            (try dsimp only at hSw)
            go_simp
            (try with_reducible rfl)
          try simp only [Act.put, List.setIfInBounds_toArray, List.set_cons_zero, List.set_cons_succ]
          refine wpAnyH_done (by kernel_rfl) ?_ _
          refine NoPanic.normal ?_
          go_wp2_with fail
          go_meet
          exact ⟨by simp, below_trans D6.out Y2.out⟩
      case rest =>
        obtain ⟨rfl, hbd⟩ := hcut
        have D7 : Hid _ := hbd
        clear hbd c0 c1 CP CV D6
        have KQ := KP.out
        have p0 := below_cell D7.out KQ.1
        have p1 := below_cell D7.out KQ.2
        clear KQ
        by_cases hrow : row < 0 ∨ (T.length : Int) ≤ row
        · have CR : Hid _ := row_none b s T row wc (HI2.out.mono D7.out) hrow
          clear hrow
          go_wp2_with fail
          refine Calls.mono CR.out ?_
          rintro e w8 ⟨rfl, hb⟩
          have B8 : Hid _ := hb
          clear hb
          go_wp2_with fail
          go_ret
          exact ⟨rfl, below_trans (below_trans (below_trans B2.out D7.out) B8.out) (bel_up _ _)⟩
        · obtain ⟨m', hm'⟩ : ∃ m' : Nat, row = m' := ⟨row.toNat, by omega⟩
          subst hm'
          obtain ⟨y, hy⟩ := getT (T := T) (i := m') (by omega)
          have CR : Hid _ := row_some b s T m' y wc (HI2.out.mono D7.out) hy
          by_cases hcol : col < 0
          · clear hrow
            go_wp2_with fail
            refine Calls.mono CR.out ?_
            rintro e w8 ⟨rfl, hb⟩
            have p1' := cell_up (.cells #[.int .i64 (y.1.1 : Int), .int .i64 (y.1.2 : Int)] 25) (below_cell hb p1)
            have B8 : Hid _ := hb
            clear hb
            go_wp2_with fail
            go_ret
            exact ⟨by simp, below_trans (below_trans (below_trans B2.out D7.out) B8.out) (bel_up _ _)⟩
          · obtain ⟨cc, hcc⟩ : ∃ cc : Nat, col = cc := ⟨col.toNat, by omega⟩
            subst hcc
            have hle := HI2.out.rw.le _ _ (map_get hy)
            obtain ⟨B', u', ua, g1, g2, g3, g4, g5, g6, g7⟩ := back_pos HI2.out.rw hy cc
            have hys : y.1.2 ≤ s.size := hle.2.2
            have hS := HS.out
            have CT : Hid (∀ W, Below w2'.heap.size w2' W → Calls Try.prog 20 #[.pointer (some ⟨b, 0, none⟩), .agg #[.int .i64 (m' : Int), .int .i64 (cc : Int)]] W fun e w' => e = .returned (.int .i64 (B' : Int)) ∧ Below W.heap.size W w') := fun W hW => by
              have := atWide_any b s T m' cc W (HI2.out.mono hW)
              rw [g1] at this
              exact this
            have CW : Hid (∀ W, Below w2'.heap.size w2' W → Calls Try.prog 19 #[.pointer (some ⟨b, 0, none⟩), .int .i64 (B' : Int)] W fun e w' => e = .returned (.agg #[.int .i64 (m' : Int), .int .i64 (u' : Int)]) ∧ Below W.heap.size W w') := fun W hW => by
              have := wide_any b s T B' B' m' y W (HI2.out.mono hW) (cl_id (by omega) (by omega)) hy g2 g3
              rw [g4] at this
              exact this
            have CX : Hid (∀ W, Below w2'.heap.size w2' W → Calls Try.prog 19 #[.pointer (some ⟨b, 0, none⟩), .int .i64 (y.1.2 : Int)] W fun e w' => e = .returned (.agg #[.int .i64 (m' : Int), .int .i64 (ua : Int)]) ∧ Below W.heap.size W w') := fun W hW => by
              have := wide_any b s T y.1.2 y.1.2 m' y W (HI2.out.mono hW) (cl_id (by omega) (by omega)) hy hle.2.1 (Nat.le_refl _)
              rw [g5] at this
              exact this
            have CA : Hid (y.1.1 + cc ≤ y.1.2 → ∀ W, Below w2'.heap.size w2' W → Calls Try.prog 16 #[.pointer (some ⟨b, 0, none⟩), .agg #[.int .i64 (m' : Int), .int .i64 (cc : Int)]] W fun e w' => e = .returned (.int .i64 ((y.1.1 + cc : Nat) : Int)) ∧ Below W.heap.size W w') := fun hc W hW => by
              have := at_any b s T m' cc W (HI2.out.mono hW)
              rw [at_pos hy cc hc] at this
              exact this
            have CQ : Hid (y.1.1 + cc ≤ y.1.2 → ∀ W, Below w2'.heap.size w2' W → Calls Try.prog 14 #[.pointer (some ⟨b, 0, none⟩), .int .i64 ((y.1.1 + cc : Nat) : Int)] W fun e w' => e = .returned (.agg #[.int .i64 (m' : Int), .int .i64 (cc : Int)]) ∧ Below W.heap.size W w') := fun hc W hW => by
              have := pos_any b s T ((y.1.1 + cc : Nat) : Int) (y.1.1 + cc) m' y W (HI2.out.mono hW) (cl_id (by omega) (by omega)) hy (by omega) hc
              rw [show y.1.1 + cc - y.1.1 = cc by omega] at this
              exact this
            have GF : Hid (u' ≤ cc ∧ (u' = cc ∨ (cc = u' + 1 ∧ cc ≤ ua) ∨ u' = ua)) := ⟨g6, g7⟩
            obtain ⟨⟨f, e⟩, v⟩ := y
            simp only at *
            have hfe : f ≤ e := hle.2.1
            have he2 : e ≤ 1099511627776 := by omega
            clear g1 g2 g3 g4 g5 g6 g7 hle hy hrow hcol hS hys HI2 HS KP BF
            go_wp2_with fail
            refine Calls.mono CR.out ?_
            rintro z w8 ⟨rfl, hb⟩
            have p0' := cell_up (.cells #[.int .i64 (f : Int), .int .i64 (e : Int)] 25) (below_cell hb p0)
            have p1' := cell_up (.cells #[.int .i64 (f : Int), .int .i64 (e : Int)] 25) (below_cell hb p1)
            obtain ⟨s0, s1⟩ := cells2 w8 (.int .i64 (f : Int)) (.int .i64 (e : Int)) 25
            have D8 : Hid (Below w2'.heap.size w2' (w8.alloc (.cells #[.int .i64 (f : Int), .int .i64 (e : Int)] 25))) := below_trans (below_trans D7.out hb) (bel_up _ _)
            clear hb p0 p1 CR D7
            have dcol : decide ((cc : Int) < 0) = false := by rw [decide_eq_false_iff_not]; omega
            go_upto_region 17 with fail
            obtain ⟨W8, hW8⟩ : ∃ W8, W8 = w8.alloc (.cells #[.int .i64 (f : Int), .int .i64 (e : Int)] 25) := ⟨_, rfl⟩
            rw [← hW8] at p0' p1' s0 s1 D8
            have HE8 : Hid _ := hW8
            clear hW8
            rw [← HE8.out]
            go_cut [111] from 95 (fun v wd => v = .bool false ∧ Below W8.heap.size W8 wd)
            case first =>
              have wrp : IntKind.i64.wrap ((e : Int) - (f : Int)) = (e : Int) - (f : Int) := by rw [IntKind.wrap_i64]; omega
              have HP : Hid (∀ W, Below W8.heap.size W8 W → W.cell? ⟨w.heap.size, 0, none⟩ = some (.int .i64 (m' : Int)) ∧ W.cell? ⟨w.heap.size, 1, none⟩ = some (.int .i64 (cc : Int)) ∧ W.cell? ⟨w8.heap.size, 0, none⟩ = some (.int .i64 (f : Int)) ∧ W.cell? ⟨w8.heap.size, 1, none⟩ = some (.int .i64 (e : Int)) ∧ Below W8.heap.size W8 W) := fun W hW => ⟨below_cell hW p0', below_cell hW p1', below_cell hW s0, below_cell hW s1, hW⟩
              have HB : Hid (∀ W, (W.cell? ⟨w.heap.size, 0, none⟩ = some (.int .i64 (m' : Int)) ∧ W.cell? ⟨w.heap.size, 1, none⟩ = some (.int .i64 (cc : Int)) ∧ W.cell? ⟨w8.heap.size, 0, none⟩ = some (.int .i64 (f : Int)) ∧ W.cell? ⟨w8.heap.size, 1, none⟩ = some (.int .i64 (e : Int)) ∧ Below W8.heap.size W8 W) → Below W8.heap.size W8 W) := fun W h => h.2.2.2.2
              by_cases hc : f + cc ≤ e
              · have dc : decide ((cc : Int) ≤ (e : Int) - (f : Int)) = true := by rw [decide_eq_true_eq]; omega
                have CA2 : Hid (∀ W, Below W8.heap.size W8 W → Calls Try.prog 16 #[.pointer (some ⟨b, 0, none⟩), .agg #[.int .i64 (m' : Int), .int .i64 (cc : Int)]] W fun e w' => e = .returned (.int .i64 ((f + cc : Nat) : Int)) ∧ Below W.heap.size W w') := fun W hW => CA.out hc W (below_trans D8.out hW)
                have CQ2 : Hid (∀ W, Below W8.heap.size W8 W → Calls Try.prog 14 #[.pointer (some ⟨b, 0, none⟩), .int .i64 ((f + cc : Nat) : Int)] W fun e w' => e = .returned (.agg #[.int .i64 (m' : Int), .int .i64 (cc : Int)]) ∧ Below W.heap.size W w') := fun W hW => CQ.out hc W (below_trans D8.out hW)
                generalize ((f + cc : Nat) : Int) = fc at CA2 CQ2
                clear CA CQ CT CW CX GF hc
                refine wp_region_noPanic ?_
                refine wp_region_held_drew (S := fun W => W.cell? ⟨w.heap.size, 0, none⟩ = some (.int .i64 (m' : Int)) ∧ W.cell? ⟨w.heap.size, 1, none⟩ = some (.int .i64 (cc : Int)) ∧ W.cell? ⟨w8.heap.size, 0, none⟩ = some (.int .i64 (f : Int)) ∧ W.cell? ⟨w8.heap.size, 1, none⟩ = some (.int .i64 (e : Int)) ∧ Below W8.heap.size W8 W) (by kernel_rfl) (HP.out _ (Below.drew (Below.refl _ _))) (fun hHeld => ?_)
                refine wpAnyH_take (i := 0) (oi := { dst := _, op := _, type := _, pos := _, after := _, guard := _ }) (v := ?_) rfl (by kernel_rfl) (by kernel_rfl) (by kernel_rfl) (fun _ _ _ h => h) (Or.inl ⟨by rfl, ?_⟩) (by assumption) ?_
                rotate_left
                · intro W hSw
                  (try dsimp only at hSw)
                  go_simp
                  (try with_reducible rfl)
                try simp only [Act.put, List.setIfInBounds_toArray, List.set_cons_zero, List.set_cons_succ]
                refine wpAnyH_take (i := 1) (oi := { dst := _, op := _, type := _, pos := _, after := _, guard := _ }) (v := ?_) rfl (by kernel_rfl) (by kernel_rfl) (by kernel_rfl) (fun _ _ _ h => h) (Or.inl ⟨by rfl, ?_⟩) (by assumption) ?_
                rotate_left
                · intro W hSw
                  (try dsimp only at hSw)
                  go_simp
                  (try with_reducible rfl)
                try simp only [Act.put, List.setIfInBounds_toArray, List.set_cons_zero, List.set_cons_succ]
                refine wpAnyH_take (i := 2) (oi := { dst := _, op := _, type := _, pos := _, after := _, guard := _ }) (v := ?_) rfl (by kernel_rfl) (by kernel_rfl) (by kernel_rfl) (fun _ _ _ h => h) (Or.inl ⟨by rfl, ?_⟩) (by assumption) ?_
                rotate_left
                · intro W hSw
                  (try dsimp only at hSw)
                  go_simp
                  (try with_reducible rfl)
                try simp only [Act.put, List.setIfInBounds_toArray, List.set_cons_zero, List.set_cons_succ]
                refine wpAnyH_take (i := 3) (oi := { dst := _, op := _, type := _, pos := _, after := _, guard := _ }) (v := ?_) rfl (by kernel_rfl) (by kernel_rfl) (by kernel_rfl) (fun _ _ _ h => h) (Or.inl ⟨by rfl, ?_⟩) (by assumption) ?_
                rotate_left
                · intro W hSw
                  (try dsimp only at hSw)
                  go_simp
                  (try with_reducible rfl)
                try simp only [Act.put, List.setIfInBounds_toArray, List.set_cons_zero, List.set_cons_succ]
                refine wpAnyH_take (i := 4) (oi := { dst := _, op := _, type := _, pos := _, after := _, guard := _ }) (v := ?_) rfl (by kernel_rfl) (by kernel_rfl) (by kernel_rfl) (fun _ _ _ h => h) (Or.inl ⟨by rfl, ?_⟩) (by assumption) ?_
                rotate_left
                · intro W hSw
                  (try dsimp only at hSw)
                  go_simp
                  (try with_reducible rfl)
                try simp only [Act.put, List.setIfInBounds_toArray, List.set_cons_zero, List.set_cons_succ]
                refine wpAnyH_take (i := 5) (oi := { dst := _, op := _, type := _, pos := _, after := _, guard := _ }) (v := ?_) rfl (by kernel_rfl) (by kernel_rfl) (by kernel_rfl) (fun _ _ _ h => h) (Or.inl ⟨by rfl, ?_⟩) (by assumption) ?_
                rotate_left
                · intro W hSw
                  (try dsimp only at hSw)
                  go_simp
                  (try with_reducible rfl)
                try simp only [Act.put, List.setIfInBounds_toArray, List.set_cons_zero, List.set_cons_succ]
                refine wpAnyH_take (i := 6) (oi := { dst := _, op := _, type := _, pos := _, after := _, guard := _ }) (v := ?_) rfl (by kernel_rfl) (by kernel_rfl) (by kernel_rfl) (fun _ _ _ h => h) (Or.inl ⟨by rfl, ?_⟩) (by assumption) ?_
                rotate_left
                · intro W hSw
                  (try dsimp only at hSw)
                  go_simp
                  (try with_reducible rfl)
                try simp only [Act.put, List.setIfInBounds_toArray, List.set_cons_zero, List.set_cons_succ]
                refine wpAnyH_take (i := 7) (oi := { dst := _, op := _, type := _, pos := _, after := _, guard := _ }) (v := ?_) rfl (by kernel_rfl) (by kernel_rfl) (by kernel_rfl) (fun _ _ _ h => h) (Or.inl ⟨by rfl, ?_⟩) (by assumption) ?_
                rotate_left
                · intro W hSw
                  (try dsimp only at hSw)
                  go_simp
                  (try with_reducible rfl)
                try simp only [Act.put, List.setIfInBounds_toArray, List.set_cons_zero, List.set_cons_succ]
                refine wpAnyH_take (i := 8) (oi := { dst := _, op := _, type := _, pos := _, after := _, guard := _ }) (v := ?_) rfl (by kernel_rfl) (by kernel_rfl) (by kernel_rfl) (fun _ _ _ h => h) (Or.inl ⟨by rfl, ?_⟩) (by assumption) ?_
                rotate_left
                · intro W hSw
                  (try dsimp only at hSw)
                  go_simp
                  (try with_reducible rfl)
                try simp only [Act.put, List.setIfInBounds_toArray, List.set_cons_zero, List.set_cons_succ]
                refine wpAnyH_take (i := 9) (oi := { dst := _, op := _, type := _, pos := _, after := _, guard := _ }) (v := ?_) rfl (by kernel_rfl) (by kernel_rfl) (by kernel_rfl) (fun _ _ _ h => h) (Or.inl ⟨by rfl, ?_⟩) (by assumption) ?_
                rotate_left
                · intro W hSw
                  (try dsimp only at hSw)
                  go_simp
                  (try with_reducible rfl)
                try simp only [Act.put, List.setIfInBounds_toArray, List.set_cons_zero, List.set_cons_succ]
                refine wpAnyH_take (i := 10) (oi := { dst := _, op := _, type := _, pos := _, after := _, guard := _ }) (v := ?_) rfl (by kernel_rfl) (by kernel_rfl) (by kernel_rfl) (fun _ _ _ h => h) (Or.inl ⟨by rfl, ?_⟩) (by assumption) ?_
                rotate_left
                · intro W hSw
                  (try dsimp only at hSw)
                  go_simp
                  (try with_reducible rfl)
                try simp only [Act.put, List.setIfInBounds_toArray, List.set_cons_zero, List.set_cons_succ]
                refine wpAnyH_take (i := 11) (oi := { dst := _, op := _, type := _, pos := _, after := _, guard := _ }) (v := ?_) rfl (by kernel_rfl) (by kernel_rfl) (by kernel_rfl) (fun _ _ _ h => h) (Or.inl ⟨by rfl, ?_⟩) (by assumption) ?_
                rotate_left
                · intro W hSw
                  (try dsimp only at hSw)
                  go_simp
                  (try with_reducible rfl)
                try simp only [Act.put, List.setIfInBounds_toArray, List.set_cons_zero, List.set_cons_succ]
                refine wpAnyH_take (i := 14) (oi := { dst := _, op := _, type := _, pos := _, after := _, guard := _ }) (v := ?_) rfl (by kernel_rfl) (by kernel_rfl) (by kernel_rfl) (fun _ _ _ h => h) (Or.inl ⟨by rfl, ?_⟩) (by assumption) ?_
                rotate_left
                · intro W hSw
                  (try dsimp only at hSw)
                  go_simp
                  (try with_reducible rfl)
                try simp only [Act.put, List.setIfInBounds_toArray, List.set_cons_zero, List.set_cons_succ]
                refine wpAnyH_ready (rs := [12]) (by kernel_rfl) (by simp) ?_
                refine AllReadyH.cons (o := { dst := _, op := _, type := _, pos := _, after := _, guard := _ }) rfl (fun K hK => ?_) AllReadyH.nil
                go_simp
                refine (CA2.out _ (Below.drew (Below.refl _ _))).mono ?_
                rintro ee Y1w ⟨rfl, hb⟩
                have Y1 : Hid (Below W8.heap.size W8 Y1w) := below_trans (Below.drew (Below.refl _ _)) hb
                clear hb
                go_wp2_with fail
                refine hK.out _ _ ?_ (fun hHeld => ?_)
                · (try dsimp only)
                  exact HP.out _ Y1.out
                clear hK K
                try simp only [Act.put, List.setIfInBounds_toArray, List.set_cons_zero, List.set_cons_succ]
                refine wpAnyH_ready (rs := [13]) (by kernel_rfl) (by simp) ?_
                refine AllReadyH.cons (o := { dst := _, op := _, type := _, pos := _, after := _, guard := _ }) rfl (fun K hK => ?_) AllReadyH.nil
                go_simp
                refine (CQ2.out _ Y1.out).mono ?_
                rintro ee Y2w ⟨rfl, hb⟩
                have Y2 : Hid (Below W8.heap.size W8 Y2w) := below_trans Y1.out hb
                clear hb
                go_wp2_with fail
                refine hK.out _ _ ?_ (fun hHeld => ?_)
                · (try dsimp only)
                  exact HP.out _ Y2.out
                clear hK K
                try simp only [Act.put, List.setIfInBounds_toArray, List.set_cons_zero, List.set_cons_succ]
                refine wpAnyH_take (i := 15) (oi := { dst := _, op := _, type := _, pos := _, after := _, guard := _ }) (v := ?_) rfl (by kernel_rfl) (by kernel_rfl) (by kernel_rfl) (fun _ _ _ h => h) (Or.inl ⟨by rfl, ?_⟩) (by assumption) ?_
                rotate_left
                · intro W hSw
                  (try dsimp only at hSw)
                  go_simp
                  (try with_reducible rfl)
                try simp only [Act.put, List.setIfInBounds_toArray, List.set_cons_zero, List.set_cons_succ]
                refine wpAnyH_take (i := 16) (oi := { dst := _, op := _, type := _, pos := _, after := _, guard := _ }) (v := ?_) rfl (by kernel_rfl) (by kernel_rfl) (by kernel_rfl) (fun _ _ _ h => h) (Or.inl ⟨by rfl, ?_⟩) (by assumption) ?_
                rotate_left
                · intro W hSw
                  (try dsimp only at hSw)
                  go_simp
                  (try with_reducible rfl)
                try simp only [Act.put, List.setIfInBounds_toArray, List.set_cons_zero, List.set_cons_succ]
                refine wpAnyH_done (by kernel_rfl) ?_ _
                refine NoPanic.normal ?_
                go_wp2_with fail
                go_meet
                exact ⟨by simp, Y2.out⟩
              · have dc : decide ((cc : Int) ≤ (e : Int) - (f : Int)) = false := by rw [decide_eq_false_iff_not]; omega
                clear CA CQ CT CW CX GF hc HP HB
                go_quiet (fail)
                go_wp2_with fail
                go_meet
                exact ⟨by simp, below_drewN (Below.refl _ _) _⟩
            case rest =>
              obtain ⟨rfl, hbd⟩ := hcut
              have DD : Hid _ := hbd
              have y0 := below_cell hbd p0'
              have y1 := below_cell hbd p1'
              have y2 := below_cell hbd s1
              clear hbd p0' p1' s0 s1 CA CQ
              have D9 : Hid (Below w2'.heap.size w2' wc) := below_trans D8.out DD.out
              go_wp2_with fail
              refine (CT.out _ D9.out).mono ?_
              rintro z w9 ⟨rfl, hb⟩
              have D10 : Hid (Below w2'.heap.size w2' w9) := below_trans D9.out hb
              have E9 : Hid (Below wc.heap.size wc w9) := hb
              clear hb
              go_wp2_with fail
              refine (CW.out _ D10.out).mono ?_
              rintro z w10 ⟨rfl, hb⟩
              have b10 := below_trans E9.out hb
              have x0 := cell_up (.cells #[.int .i64 (m' : Int), .int .i64 (u' : Int)] 33) (below_cell b10 y0)
              have x1 := cell_up (.cells #[.int .i64 (m' : Int), .int .i64 (u' : Int)] 33) (below_cell b10 y1)
              have x2 := cell_up (.cells #[.int .i64 (m' : Int), .int .i64 (u' : Int)] 33) (below_cell b10 y2)
              have D11 : Hid (Below w2'.heap.size w2' (w10.alloc (.cells #[.int .i64 (m' : Int), .int .i64 (u' : Int)] 33))) := below_trans (below_trans D10.out hb) (bel_up _ _)
              clear hb b10 y0 y1 y2 E9
              go_wp2_with fail
              refine (CX.out _ D11.out).mono ?_
              rintro z w11 ⟨rfl, hb⟩
              have z0 := cell_up (.cells #[.int .i64 (m' : Int), .int .i64 (ua : Int)] 33) (below_cell hb x0)
              have z1 := cell_up (.cells #[.int .i64 (m' : Int), .int .i64 (ua : Int)] 33) (below_cell hb x1)
              obtain ⟨a0, a1⟩ := cells2 w10 (.int .i64 (m' : Int)) (.int .i64 (u' : Int)) 33
              have v0 := cell_up (.cells #[.int .i64 (m' : Int), .int .i64 (ua : Int)] 33) (below_cell hb a0)
              have v1 := cell_up (.cells #[.int .i64 (m' : Int), .int .i64 (ua : Int)] 33) (below_cell hb a1)
              have D12 : Hid (Below w2'.heap.size w2' (w11.alloc (.cells #[.int .i64 (m' : Int), .int .i64 (ua : Int)] 33))) := below_trans (below_trans D11.out hb) (bel_up _ _)
              have hle := GF.out.1
              clear hb x0 x1 x2 a0 a1
              have FIN : Hid (Below w.heap.size w (w11.alloc (.cells #[.int .i64 (m' : Int), .int .i64 (ua : Int)] 33))) := below_trans B2.out D12.out
              rcases GF.out.2 with h | ⟨h, h'⟩ | h
              · subst h
                go_wp2_with fail
                all_goals go_ret
                all_goals exact ⟨by simp, FIN.out⟩
              · subst h
                go_wp2_with fail
                all_goals go_ret
                all_goals refine ⟨?_, FIN.out⟩
                all_goals first | rfl | (simp; done) | (simp; omega)
              · subst h
                go_wp2_with fail
                all_goals go_ret
                all_goals refine ⟨by simp, ?_⟩
                all_goals first
                  | exact FIN.out
                  | (have hh : (u' : Int) = (cc : Int) := by omega
                     rw [← hh]
                     exact FIN.out)

end Go.Proofs.Ytbhlaheidlnppaa
