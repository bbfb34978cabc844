import Derived.Test.YthfijmabagjdkaaRfb
namespace Go.Proofs.Ythfijmabagjdkaa
open Go.RowKit Go.Maps

def isH (b : Int) : Bool := decide (hxv b ≠ -1)
theorem hxs_mem : ∀ n : Fin 256, (⟨#[48, 49, 50, 51, 52, 53, 54, 55, 56, 57, 97, 98, 99, 100, 101, 102, 65, 66, 67, 68, 69, 70]⟩ : ByteArray).data.toList.contains (UInt8.ofNat n.val) = isH (n.val : Int) := by decide +kernel
theorem hxs_con (x : UInt8) : (⟨#[48, 49, 50, 51, 52, 53, 54, 55, 56, 57, 97, 98, 99, 100, 101, 102, 65, 66, 67, 68, 69, 70]⟩ : ByteArray).data.toList.contains x = isH (nI x) := by
  have h := hxs_mem ⟨x.toNat, UInt8.toNat_lt x⟩
  simp only [UInt8.ofNat_toNat] at h
  exact h
theorem tw_two (p : Int → Bool) (hp : p (-1) = false) (s : ByteArray) (k : Nat) : decide (2 ≤ tw p (s.data.toList.drop k)) = (p (rd s k) && p (rd s (k + 1))) := by
  by_cases h1 : k < s.size
  · rw [drop_at s k h1, rd_at h1]
    cases ha : p (nI (s.get! k)) with
    | false => simp [tw, ha]
    | true =>
      by_cases h2 : k + 1 < s.size
      · rw [drop_at s (k + 1) h2, rd_at h2]
        cases hb : p (nI (s.get! (k + 1))) with
        | false => simp [tw, ha, hb]
        | true => simp [tw, ha, hb]; omega
      · have hr : rd s (k + 1) = -1 := if_neg h2
        rw [drop_end s (k + 1) (by omega), hr, hp]
        simp [tw, ha]
  · have hr : rd s k = -1 := if_neg h1
    rw [drop_end s k (by omega), hr, hp]
    simp [tw]
/-- What Escape answers: how many bytes, the byte. -/
def esA (s : ByteArray) (k : Nat) : Int × Int := if (es s (k + 1)).1 = -1 then (0, 0) else ((((es s (k + 1)).2 + 1 - k : Nat) : Int), (es s (k + 1)).1)

set_option maxRecDepth 100000 in
set_option maxHeartbeats 8000000 in
theorem resc_any (s : ByteArray) (k : Nat) (hk : k < s.size) (hs : s.size ≤ 1000000000) (w : World) : Calls Try.prog 51 #[.string s, .int .i64 (k : Int)] w fun e w' => e = .returned (.tuple #[.int .i64 (esA s k).1, .int .u8 (esA s k).2]) ∧ Below w.heap.size w w' := by
  obtain ⟨k1, hk1⟩ : ∃ k1, k + 1 = k1 := ⟨_, rfl⟩
  have HK1 : Hid (k + 1 = k1) := hk1
  have hw1 : IntKind.i64.wrap ((k : Int) + 1) = (k1 : Int) := by rw [IntKind.wrap_i64]; omega
  have HZ : Hid (s.size ≤ 1000000000) := hs
  obtain ⟨R, hR⟩ : ∃ R, esA s k = R := ⟨_, rfl⟩
  rw [hR]
  unfold esA at hR
  rw [hk1] at hR
  by_cases hl : s.size ≤ k1
  · have d1 : decide ((s.size : Int) ≤ (k1 : Int)) = true := by rw [decide_eq_true_eq]; omega
    have d2 : decide (s.size ≤ k1) = true := by rw [decide_eq_true_eq]; omega
    have he : (es s k1).1 = -1 := by
      unfold es
      have hr : rd s k1 = -1 := if_neg (by omega)
      rw [hr, if_neg (by decide)]
      rfl
    rw [if_pos he] at hR
    subst hR
    clear hk hs hk1 hl he
    go_enter Try.func51, Try.ntmps51
    go_wp2_with fail
    go_ret2
    exact ⟨rfl, Below.refl _ _⟩
  · have d1 : decide ((s.size : Int) ≤ (k1 : Int)) = false := by rw [decide_eq_false_iff_not]; omega
    have d2 : decide (s.size ≤ k1) = false := by rw [decide_eq_false_iff_not]; omega
    have hix := idx_fact s k1 (by omega)
    have hrd : rd s k1 = ((s.get! k1).toNat : Int) := rd_at (by omega)
    obtain ⟨y, hy⟩ : ∃ y, (s.get! k1).toNat = y := ⟨_, rfl⟩
    rw [hy] at hix hrd
    have hes : es s k1 = if (y : Int) = 120 then td s (k1 + 1) else (emv (y : Int), k1) := by unfold es; rw [hrd]
    by_cases c1 : y = 34 ∨ y = 92 ∨ y = 110 ∨ y = 116 ∨ y = 114
    · rcases c1 with rfl | rfl | rfl | rfl | rfl
      all_goals
        rw [if_neg (by decide)] at hes
        rw [hes, if_neg (show ¬ emv _ = -1 by decide), show k1 + 1 - k = 2 by omega] at hR
        subst hR
        clear hk hs hk1 hl hes hrd hy
        go_enter Try.func51, Try.ntmps51
        go_wp2_with fail
        go_ret2
        exact ⟨rfl, Below.refl _ _⟩
    · have n1 : ¬ ((y : Int) = 34) := by omega
      have n2 : ¬ ((y : Int) = 92) := by omega
      have n3 : ¬ ((y : Int) = 110) := by omega
      have n4 : ¬ ((y : Int) = 116) := by omega
      have n5 : ¬ ((y : Int) = 114) := by omega
      have m1 : (y == 34) = false := by simp; omega
      have m2 : (y == 92) = false := by simp; omega
      have m3 : (y == 110) = false := by simp; omega
      have m4 : (y == 116) = false := by simp; omega
      have m5 : (y == 114) = false := by simp; omega
      by_cases c2 : y = 120
      · subst c2
        rw [if_pos (by decide)] at hes
        rw [hes] at hR
        obtain ⟨k2, hk2⟩ : ∃ k2, k1 + 1 = k2 := ⟨_, rfl⟩
        rw [hk2] at hR
        have hw2 : IntKind.i64.wrap ((k : Int) + 2) = (k2 : Int) := by rw [IntKind.wrap_i64]; omega
        have HRUN : Hid _ := rrun_any s (⟨#[48, 49, 50, 51, 52, 53, 54, 55, 56, 57, 97, 98, 99, 100, 101, 102, 65, 66, 67, 68, 69, 70]⟩ : ByteArray) k2 isH hxs_con (by omega) (by omega) (by decide) w
        have ht := tw_two isH (by decide) s k2
        obtain ⟨t, htt⟩ : ∃ t, tw isH (s.data.toList.drop k2) = t := ⟨_, rfl⟩
        rw [htt] at HRUN ht
        have HRU : Hid (Calls Try.prog 27 #[.string s, .int .i64 (k2 : Int), .string ⟨#[48, 49, 50, 51, 52, 53, 54, 55, 56, 57, 97, 98, 99, 100, 101, 102, 65, 66, 67, 68, 69, 70]⟩] w fun e w' => e = .returned (.int .i64 (t : Int)) ∧ w' = w) := HRUN
        clear HRUN htt
        by_cases ca : hxv (rd s k2) ≠ -1 ∧ hxv (rd s (k2 + 1)) ≠ -1
        · have htd : td s k2 = (16 * hxv (rd s k2) + hxv (rd s (k2 + 1)), k2 + 1) := by unfold td; rw [if_neg ca.1, if_neg ca.2]
          have hb1 : isH (rd s k2) = true := by unfold isH; rw [decide_eq_true_eq]; exact ca.1
          have hb2 : isH (rd s (k2 + 1)) = true := by unfold isH; rw [decide_eq_true_eq]; exact ca.2
          rw [hb1, hb2] at ht
          have d3 : decide ((2 : Int) ≤ (t : Int)) = true := by rw [decide_eq_true_eq]; simp at ht; omega
          have d4 : decide (2 ≤ t) = true := ht
          have hx : hxv (-1) = -1 := by decide
          have hl2 : k2 < s.size := rd_lt (fun e => ca.1 (by rw [e]; exact hx))
          have hl3 : k2 + 1 < s.size := rd_lt (fun e => ca.2 (by rw [e]; exact hx))
          obtain ⟨k3, hk3⟩ : ∃ k3, k2 + 1 = k3 := ⟨_, rfl⟩
          rw [hk3] at hl3 htd ca
          have hw3 : IntKind.i64.wrap ((k : Int) + 3) = (k3 : Int) := by rw [IntKind.wrap_i64]; omega
          have hi2 := idx_fact s k2 hl2
          have hi3 := idx_fact s k3 hl3
          have hr2 : rd s k2 = nI (s.get! k2) := rd_at hl2
          have hr3 : rd s k3 = nI (s.get! k3) := rd_at hl3
          rw [hr2, hr3] at ca htd
          have HC2 : Hid _ := fun W => hex_any (s.get! k2) ca.1 W
          have HC3 : Hid _ := fun W => hex_any (s.get! k3) ca.2 W
          obtain ⟨a, ha, ea⟩ := (hxv_lo (nI (s.get! k2))).resolve_left ca.1
          obtain ⟨b, hb, eb⟩ := (hxv_lo (nI (s.get! k3))).resolve_left ca.2
          rw [ea] at HC2 htd
          rw [eb] at HC3 htd
          have HA : Hid (∀ W, Calls Try.prog 60 #[.int .u8 ((s.get! k2).toNat : Int)] W fun e w' => e = .returned (.int .i64 (a : Int)) ∧ w' = W) := HC2
          have HB : Hid (∀ W, Calls Try.prog 60 #[.int .u8 ((s.get! k3).toNat : Int)] W fun e w' => e = .returned (.int .i64 (b : Int)) ∧ w' = W) := HC3
          clear HC2 HC3
          obtain ⟨p2, hp2⟩ : ∃ p2, (s.get! k2).toNat = p2 := ⟨_, rfl⟩
          obtain ⟨p3, hp3⟩ : ∃ p3, (s.get! k3).toNat = p3 := ⟨_, rfl⟩
          rw [hp2] at HA hi2
          rw [hp3] at HB hi3
          rw [htd, if_neg (by omega), show k3 + 1 - k = 4 by omega] at hR
          subst hR
          have hv1 : IntKind.i64.wrap (16 * (a : Int)) = 16 * (a : Int) := by rw [IntKind.wrap_i64]; omega
          have hv2 : IntKind.i64.wrap (16 * (a : Int) + (b : Int)) = 16 * (a : Int) + (b : Int) := by rw [IntKind.wrap_i64]; omega
          have hv3 : IntKind.u8.wrap (16 * (a : Int) + (b : Int)) = 16 * (a : Int) + (b : Int) := by simp [IntKind.wrap, IntKind.bits, IntKind.signed]; omega
          clear hk hs hk1 hl hes hrd hy hk2 hk3 ca htd hb1 hb2 ht hx hl2 hl3 hr2 hr3 ha hb ea eb hp2 hp3 c1
          go_enter Try.func51, Try.ntmps51
          go_wp2_with fail
          refine HRU.out.mono ?_
          rintro e w9 ⟨rfl, hw9⟩
          rw [hw9]
          clear hw9 w9
          go_upto_region 16 with fail
          obtain ⟨WD, hWD⟩ : ∃ WD, w.drew = WD := ⟨_, rfl⟩
          have HBD : Hid (Below w.heap.size w WD) := by rw [← hWD]; exact Below.drew (Below.refl _ _)
          refine wp_region_noPanic ?_
          refine wp_region_held_drew (S := fun _ => True) (by kernel_rfl) trivial (fun hHeld => ?_)
          rw [hWD]
          clear hWD
          refine wpAnyH_take (i := 0) (oi := { dst := _, op := _, type := _, pos := _, after := _, guard := _ }) (v := ?_) rfl (by kernel_rfl) (by kernel_rfl) (by kernel_rfl) (fun _ _ _ h => h) (Or.inl ⟨by rfl, ?_⟩) (by assumption) ?_
          rotate_left
          · intro W hSw
            (try dsimp only at hSw)
            go_simp
            (try with_reducible rfl)
          try simp only [Act.put, List.setIfInBounds_toArray, List.set_cons_zero, List.set_cons_succ]
          refine wpAnyH_take (i := 1) (oi := { dst := _, op := _, type := _, pos := _, after := _, guard := _ }) (v := ?_) rfl (by kernel_rfl) (by kernel_rfl) (by kernel_rfl) (fun _ _ _ h => h) (Or.inl ⟨by rfl, ?_⟩) (by assumption) ?_
          rotate_left
          · intro W hSw
            (try dsimp only at hSw)
            go_simp
            (try with_reducible rfl)
          try simp only [Act.put, List.setIfInBounds_toArray, List.set_cons_zero, List.set_cons_succ]
          refine wpAnyH_take (i := 2) (oi := { dst := _, op := _, type := _, pos := _, after := _, guard := _ }) (v := ?_) rfl (by kernel_rfl) (by kernel_rfl) (by kernel_rfl) (fun _ _ _ h => h) (Or.inl ⟨by rfl, ?_⟩) (by assumption) ?_
          rotate_left
          · intro W hSw
            (try dsimp only at hSw)
            go_simp
            (try with_reducible rfl)
          try simp only [Act.put, List.setIfInBounds_toArray, List.set_cons_zero, List.set_cons_succ]
          refine wpAnyH_take (i := 3) (oi := { dst := _, op := _, type := _, pos := _, after := _, guard := _ }) (v := ?_) rfl (by kernel_rfl) (by kernel_rfl) (by kernel_rfl) (fun _ _ _ h => h) (Or.inl ⟨by rfl, ?_⟩) (by assumption) ?_
          rotate_left
          · intro W hSw
            (try dsimp only at hSw)
            go_simp
            (try with_reducible rfl)
          try simp only [Act.put, List.setIfInBounds_toArray, List.set_cons_zero, List.set_cons_succ]
          refine wpAnyH_take (i := 6) (oi := { dst := _, op := _, type := _, pos := _, after := _, guard := _ }) (v := ?_) rfl (by kernel_rfl) (by kernel_rfl) (by kernel_rfl) (fun _ _ _ h => h) (Or.inl ⟨by rfl, ?_⟩) (by assumption) ?_
          rotate_left
          · intro W hSw
            (try dsimp only at hSw)
            go_simp
            (try with_reducible rfl)
          try simp only [Act.put, List.setIfInBounds_toArray, List.set_cons_zero, List.set_cons_succ]
          refine wpAnyH_take (i := 7) (oi := { dst := _, op := _, type := _, pos := _, after := _, guard := _ }) (v := ?_) rfl (by kernel_rfl) (by kernel_rfl) (by kernel_rfl) (fun _ _ _ h => h) (Or.inl ⟨by rfl, ?_⟩) (by assumption) ?_
          rotate_left
          · intro W hSw
            (try dsimp only at hSw)
            go_simp
            (try with_reducible rfl)
          try simp only [Act.put, List.setIfInBounds_toArray, List.set_cons_zero, List.set_cons_succ]
          refine wpAnyH_take (i := 8) (oi := { dst := _, op := _, type := _, pos := _, after := _, guard := _ }) (v := ?_) rfl (by kernel_rfl) (by kernel_rfl) (by kernel_rfl) (fun _ _ _ h => h) (Or.inl ⟨by rfl, ?_⟩) (by assumption) ?_
          rotate_left
          · intro W hSw
            (try dsimp only at hSw)
            go_simp
            (try with_reducible rfl)
          try simp only [Act.put, List.setIfInBounds_toArray, List.set_cons_zero, List.set_cons_succ]
          refine wpAnyH_take (i := 9) (oi := { dst := _, op := _, type := _, pos := _, after := _, guard := _ }) (v := ?_) rfl (by kernel_rfl) (by kernel_rfl) (by kernel_rfl) (fun _ _ _ h => h) (Or.inl ⟨by rfl, ?_⟩) (by assumption) ?_
          rotate_left
          · intro W hSw
            (try dsimp only at hSw)
            go_simp
            (try with_reducible rfl)
          try simp only [Act.put, List.setIfInBounds_toArray, List.set_cons_zero, List.set_cons_succ]
          refine wpAnyH_ready (rs := [4]) (by kernel_rfl) (by simp) ?_
          refine AllReadyH.cons (o := { dst := _, op := _, type := _, pos := _, after := _, guard := _ }) rfl (fun K hK => ?_) AllReadyH.nil
          go_simp
          refine (HA.out _).mono ?_
          rintro e w9 ⟨rfl, hw9⟩
          rw [hw9]
          clear hw9 w9
          go_wp2_with fail
          refine hK.out _ _ ?_ (fun hHeld => ?_)
          · exact trivial
          clear hK K
          try simp only [Act.put, List.setIfInBounds_toArray, List.set_cons_zero, List.set_cons_succ]
          refine wpAnyH_take (i := 5) (oi := { dst := _, op := _, type := _, pos := _, after := _, guard := _ }) (v := ?_) rfl (by kernel_rfl) (by kernel_rfl) (by kernel_rfl) (fun _ _ _ h => h) (Or.inl ⟨by rfl, ?_⟩) (by assumption) ?_
          rotate_left
          · intro W hSw
            (try dsimp only at hSw)
            go_simp
            (try with_reducible rfl)
          try simp only [Act.put, List.setIfInBounds_toArray, List.set_cons_zero, List.set_cons_succ]
          refine wpAnyH_ready (rs := [10]) (by kernel_rfl) (by simp) ?_
          refine AllReadyH.cons (o := { dst := _, op := _, type := _, pos := _, after := _, guard := _ }) rfl (fun K hK => ?_) AllReadyH.nil
          go_simp
          refine (HB.out _).mono ?_
          rintro e w9 ⟨rfl, hw9⟩
          rw [hw9]
          clear hw9 w9
          go_wp2_with fail
          refine hK.out _ _ ?_ (fun hHeld => ?_)
          · exact trivial
          clear hK K
          try simp only [Act.put, List.setIfInBounds_toArray, List.set_cons_zero, List.set_cons_succ]
          refine wpAnyH_take (i := 11) (oi := { dst := _, op := _, type := _, pos := _, after := _, guard := _ }) (v := ?_) rfl (by kernel_rfl) (by kernel_rfl) (by kernel_rfl) (fun _ _ _ h => h) (Or.inl ⟨by rfl, ?_⟩) (by assumption) ?_
          rotate_left
          · intro W hSw
            (try dsimp only at hSw)
            go_simp
            (try with_reducible rfl)
          try simp only [Act.put, List.setIfInBounds_toArray, List.set_cons_zero, List.set_cons_succ]
          refine wpAnyH_take (i := 12) (oi := { dst := _, op := _, type := _, pos := _, after := _, guard := _ }) (v := ?_) rfl (by kernel_rfl) (by kernel_rfl) (by kernel_rfl) (fun _ _ _ h => h) (Or.inl ⟨by rfl, ?_⟩) (by assumption) ?_
          rotate_left
          · intro W hSw
            (try dsimp only at hSw)
            go_simp
            (try with_reducible rfl)
          try simp only [Act.put, List.setIfInBounds_toArray, List.set_cons_zero, List.set_cons_succ]
          refine wpAnyH_take (i := 13) (oi := { dst := _, op := _, type := _, pos := _, after := _, guard := _ }) (v := ?_) rfl (by kernel_rfl) (by kernel_rfl) (by kernel_rfl) (fun _ _ _ h => h) (Or.inl ⟨by rfl, ?_⟩) (by assumption) ?_
          rotate_left
          · intro W hSw
            (try dsimp only at hSw)
            go_simp
            (try with_reducible rfl)
          try simp only [Act.put, List.setIfInBounds_toArray, List.set_cons_zero, List.set_cons_succ]
          refine wpAnyH_take (i := 14) (oi := { dst := _, op := _, type := _, pos := _, after := _, guard := _ }) (v := ?_) rfl (by kernel_rfl) (by kernel_rfl) (by kernel_rfl) (fun _ _ _ h => h) (Or.inl ⟨by rfl, ?_⟩) (by assumption) ?_
          rotate_left
          · intro W hSw
            (try dsimp only at hSw)
            go_simp
            (try with_reducible rfl)
          try simp only [Act.put, List.setIfInBounds_toArray, List.set_cons_zero, List.set_cons_succ]
          refine wpAnyH_done (by kernel_rfl) ?_ _
          clear hHeld
          refine NoPanic.normal ?_
          go_wp2_with fail
          go_ret2
          exact ⟨rfl, HBD.out⟩
        · have htd : (td s k2).1 = -1 := by
            unfold td
            by_cases cb : hxv (rd s k2) = -1
            · rw [if_pos cb]
            · rw [if_neg cb, if_pos (Classical.byContradiction fun h => ca ⟨cb, h⟩)]
          have hb12 : (isH (rd s k2) && isH (rd s (k2 + 1))) = false := by
            cases h1 : isH (rd s k2) with
            | false => rfl
            | true =>
              cases h2 : isH (rd s (k2 + 1)) with
              | false => rfl
              | true => exact absurd ⟨of_decide_eq_true h1, of_decide_eq_true h2⟩ ca
          rw [hb12] at ht
          have d3 : decide ((2 : Int) ≤ (t : Int)) = false := by rw [decide_eq_false_iff_not]; simp at ht; omega
          have d4 : decide (2 ≤ t) = false := ht
          rw [if_pos htd] at hR
          subst hR
          clear hk hs hk1 hl hes hrd hy hk2 ca htd hb12 ht c1
          go_enter Try.func51, Try.ntmps51
          go_wp2_with fail
          refine HRU.out.mono ?_
          rintro e w9 ⟨rfl, hw9⟩
          rw [hw9]
          clear hw9 w9
          go_wp2_with fail
          go_ret2
          exact ⟨rfl, Below.refl _ _⟩
      · have n6 : ¬ ((y : Int) = 120) := by omega
        have m6 : (y == 120) = false := by simp; omega
        have hem : emv (y : Int) = -1 := by unfold emv; rw [if_neg n1, if_neg n2, if_neg n3, if_neg n4, if_neg n5]
        rw [if_neg n6, hem] at hes
        rw [hes, if_pos rfl] at hR
        subst hR
        clear hk hs hk1 hl hes hrd hy hem c1 c2
        go_enter Try.func51, Try.ntmps51
        go_wp2_with fail
        go_ret2
        exact ⟨rfl, Below.refl _ _⟩
end Go.Proofs.Ythfijmabagjdkaa
