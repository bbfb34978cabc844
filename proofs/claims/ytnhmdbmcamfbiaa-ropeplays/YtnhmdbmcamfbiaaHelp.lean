import Derived.Test.YtnhmdbmcamfbiaaAsks
namespace Go.Proofs.Ytnhmdbmcamfbiaa
open Go.RowKit

set_option maxRecDepth 100000 in
set_option maxHeartbeats 400000 in
theorem within_any (n m : Int) (w : World) :
    Calls Try.prog 9 #[.int .i64 n, .int .i64 m] w fun e w' => e = .returned (.int .i64 (cl n m)) ∧ w = w' := by
  go_enter Try.func9, Try.ntmps9
  go_wp2
  all_goals
    go_ret
    exact ⟨ret_int (by unfold cl; split <;> (try split) <;> omega), rfl⟩

set_option maxRecDepth 100000 in
set_option maxHeartbeats 400000 in
theorem low_any (n : Nat) (w : World) (hn : n ≤ 4194304) :
    Calls Try.prog 14 #[.int .i64 (n : Int)] w fun e w' => e = .returned (.int .i64 ((2 + 2 * Rp.bits n : Nat) : Int)) ∧ w = w' := by
  have hb : Rp.bits n ≤ 100 := by
    have h1 : ∀ k m, m < 2 ^ k → Rp.bits m ≤ k := by
      intro k
      induction k with
      | zero => intro m h; have : m = 0 := by omega
                rw [this, Rp.bits_zero]; omega
      | succ k ih =>
        intro m h
        by_cases h0 : m = 0
        · rw [h0, Rp.bits_zero]; omega
        · rw [Rp.bits_pos (by omega)]
          have := ih (m / 2) (by omega)
          omega
    have := h1 23 n (by omega)
    omega
  obtain ⟨B, hB⟩ : ∃ B, B = Rp.bits n := ⟨_, rfl⟩
  rw [← hB] at hb
  have HB : Hid _ := hB
  rw [← hB]
  clear hB
  go_enter Try.func14, Try.ntmps14
  go_wp2_with fail
  go_loop [0, 3] (fun x y => ∃ m k : Nat, x = .int .i64 (m : Int) ∧ y = .int .i64 (k : Int) ∧ m ≤ 4194304 ∧ k ≤ 300 ∧ Hid (k + 2 * Rp.bits m = 2 + 2 * B)) (fun x _ => (intOf x).toNat)
  case atStart => exact ⟨n, 2, rfl, rfl, hn, by omega, show 2 + 2 * Rp.bits n = 2 + 2 * B by rw [HB.out]⟩
  case round =>
    obtain ⟨m, k, rfl, rfl, h1, h2, h3⟩ := hrel
    by_cases h0 : m = 0
    · subst h0
      have h4 : Hid (k = 2 + 2 * B) := by have := h3.out; rw [Rp.bits_zero] at this; exact (by omega : k = 2 + 2 * B)
      go_wp2_with fail
      go_ret
      have h4' := h4.out
      exact ⟨ret_int (a := (k : Int)) (b := ((2 + 2 * B : Nat) : Int)) (by omega), rfl⟩
    · have h5 : 0 < m := by omega
      have h6 : Hid (k + 2 + 2 * Rp.bits (m / 2) = 2 + 2 * B) := by have := h3.out; rw [Rp.bits_pos h5] at this; exact (by omega : k + 2 + 2 * Rp.bits (m / 2) = 2 + 2 * B)
      have h7 : k + 2 ≤ 300 := by have := h6.out; omega
      clear h0
      go_wp2_with fail
      go_round
      case rel => exact ⟨m / 2, k + 2, by go_num, by go_num, by omega, h7, h6⟩
      case measure => simp [intOf]; omega

/-- the bytes of a text, as a string -/
theorem bytes_back (s : ByteArray) : (⟨s.data.toList.toArray⟩ : ByteArray) = s := by simp

theorem string_of (b : Nat) (s : ByteArray) (w : World) (h : IsRope w b s.data.toList) :
    Calls Try.prog 15 #[.pointer (some ⟨b, 0, none⟩)] w fun e w' => e = .returned (.string s) ∧ Below w.heap.size w w' := by
  have := string_any b _ w h
  rwa [bytes_back] at this

set_option maxRecDepth 100000 in
set_option maxHeartbeats 1000000 in
theorem cut_no (s : ByteArray) (a d : Int) (ins : ByteArray) (w : World) (hs : s.size ≤ 1048576) (hi : ins.size ≤ 9223372036854775807)
    (hbig : 1048576 - ((s.size : Int) - cl d (s.size - cl a s.size)) < (ins.size : Int)) :
    Calls Try.prog 16 #[.string s, .agg #[.int .i64 a, .int .i64 d, .string ins]] w fun e w' => e = .returned (.tuple #[.string ⟨#[]⟩, .bool false]) ∧ Below w.heap.size w w' := by
  have H1 := cl_bd a s.size (by omega)
  have H2 := cl_bd d (s.size - cl a s.size) (by omega)
  generalize ha : cl a s.size = a' at *
  generalize hd : cl d (s.size - a') = d' at *
  have hC1 : Hid (∀ W, Calls Try.prog 9 #[.int .i64 a, .int .i64 s.size] W fun e w' => e = .returned (.int .i64 a') ∧ W = w') := fun W => by rw [← ha]; exact within_any a s.size W
  have hC2 : Hid (∀ W, Calls Try.prog 9 #[.int .i64 d, .int .i64 (s.size - a')] W fun e w' => e = .returned (.int .i64 d') ∧ W = w') := fun W => by rw [← hd]; exact within_any d (s.size - a') W
  clear ha hd
  have hh : 1048576 - (s.size : Int) + d' < (ins.size : Int) := by omega
  clear hbig
  go_enter Try.func16, Try.ntmps16
  go_wp2_with fail
  refine (hC1.out _).mono ?_
  rintro e w' ⟨rfl, rfl⟩
  go_wp2_with fail
  refine (hC2.out _).mono ?_
  rintro e w' ⟨rfl, rfl⟩
  go_wp2_with fail
  go_ret2
  exact ⟨rfl, (Below.refl _ _).alloc (Nat.le_refl _) _⟩

set_option maxRecDepth 100000 in
set_option maxHeartbeats 1000000 in
theorem cut_yes (s : ByteArray) (a d : Int) (ins : ByteArray) (w : World) (hs : s.size ≤ 1048576)
    (hbig : (ins.size : Int) ≤ 1048576 - ((s.size : Int) - cl d (s.size - cl a s.size))) :
    Calls Try.prog 16 #[.string s, .agg #[.int .i64 a, .int .i64 d, .string ins]] w fun e w' => ∃ r : ByteArray, e = .returned (.tuple #[.string r, .bool true]) ∧ r.data.toList = after s.data.toList a d ins ∧ Below w.heap.size w w' := by
  have H1 := cl_bd a s.size (by omega)
  have H2 := cl_bd d (s.size - cl a s.size) (by omega)
  unfold after
  rw [← Lib.size_eq]
  generalize ha : cl a s.size = a' at *
  generalize hd : cl d (s.size - a') = d' at *
  have hC1 : Hid (∀ W, Calls Try.prog 9 #[.int .i64 a, .int .i64 s.size] W fun e w' => e = .returned (.int .i64 a') ∧ W = w') := fun W => by rw [← ha]; exact within_any a s.size W
  have hC2 : Hid (∀ W, Calls Try.prog 9 #[.int .i64 d, .int .i64 (s.size - a')] W fun e w' => e = .returned (.int .i64 d') ∧ W = w') := fun W => by rw [← hd]; exact within_any d (s.size - a') W
  clear ha hd
  obtain ⟨an, rfl⟩ := Int.eq_ofNat_of_zero_le H1.1
  obtain ⟨dn, rfl⟩ := Int.eq_ofNat_of_zero_le H2.1
  have hh : (ins.size : Int) ≤ 1048576 - (s.size : Int) + dn := by omega
  clear hbig
  go_enter Try.func16, Try.ntmps16
  go_wp2_with fail
  refine (hC1.out _).mono ?_
  rintro e w' ⟨rfl, rfl⟩
  go_wp2_with fail
  refine (hC2.out _).mono ?_
  rintro e w' ⟨rfl, rfl⟩
  go_wp2_with fail
  go_quiet (fail)
  go_wp2_with fail
  go_ret2
  refine ⟨_, rfl, ?_, below_drewN ((Below.refl _ _).alloc (Nat.le_refl _) _) _⟩
  rw [ByteArray.data_append, ByteArray.data_append, Array.toList_append, Array.toList_append, Lib.extract_to_end, Lib.extract_data, Int.toNat_natCast, Int.toNat_natCast]
  simp

theorem byte_mid (s : ByteArray) : ∃ x : Int, ∀ (b : Nat) (W : World), IsRope W b s.data.toList →
    Calls Try.prog 23 #[.pointer (some ⟨b, 0, none⟩), .int .i64 ((s.size : Int) / 2)] W fun e w' => e = .returned (.tuple #[.int .u8 x, .bool (decide (0 < (s.size : Int)))]) ∧ W = w' := by
  have hs := Lib.size_eq s
  by_cases h0 : s.size = 0
  · refine ⟨0, fun b W h => ?_⟩
    have e1 : decide (0 < (s.size : Int)) = false := by simp [h0]
    rw [e1]
    exact byte_no b _ _ W h (by omega)
  · refine ⟨((s.data.toList[s.size / 2]?.getD 0).toNat : Int), fun b W h => ?_⟩
    have e1 : decide (0 < (s.size : Int)) = true := by simp; omega
    rw [e1, show (s.size : Int) / 2 = ((s.size / 2 : Nat) : Int) by omega]
    exact byte_yes b _ _ W h (by omega)

set_option maxRecDepth 100000 in
set_option maxHeartbeats 2000000 in
theorem same_any (b : Nat) (s : ByteArray) (w : World) (h : IsRope w b s.data.toList) :
    Calls Try.prog 18 #[.pointer (some ⟨b, 0, none⟩), .string s] w fun e w' => e = .returned (.bool true) ∧ Below w.heap.size w w' := by
  have hl := h.len
  rw [← Lib.size_eq] at hl
  have HR : Hid _ := h
  clear h
  obtain ⟨x, hx⟩ := byte_mid s
  have HX : Hid _ := hx
  clear hx
  have hL : Hid (∀ b W, IsRope W b s.data.toList → Calls Try.prog 12 #[.pointer (some ⟨b, 0, none⟩)] W fun e w' => e = .returned (.int .i64 (s.size : Int)) ∧ W = w') := fun b W h => by rw [Lib.size_eq]; exact len_any b _ W h
  have hD : Hid (∀ b W, IsRope W b s.data.toList → Calls Try.prog 13 #[.pointer (some ⟨b, 0, none⟩)] W fun e w' => ∃ d : Nat, e = .returned (.int .i64 (d : Int)) ∧ 1 ≤ d ∧ d ≤ 2 + 2 * Rp.bits s.size ∧ W = w') := fun b W h => by rw [Lib.size_eq]; exact depth_any b _ W h
  have hW : Hid (∀ W, Calls Try.prog 14 #[.int .i64 (s.size : Int)] W fun e w' => e = .returned (.int .i64 ((2 + 2 * Rp.bits s.size : Nat) : Int)) ∧ W = w') := fun W => low_any s.size W (by omega)
  generalize 2 + 2 * Rp.bits s.size = most at *
  go_enter Try.func18, Try.ntmps18
  go_wp2_with fail
  refine (new_any s w hl).mono ?_
  rintro e w1 ⟨f, rfl, hf, hb⟩
  have HF : Hid _ := hf
  have HR1 : Hid _ := HR.out.mono hb
  have B1 : Hid _ := hb
  clear hf hb
  go_wp2_with fail
  refine (HX.out _ _ HR1.out).mono ?_
  rintro e w' ⟨rfl, rfl⟩
  go_wp2_with fail
  refine (HX.out _ _ HF.out).mono ?_
  rintro e w' ⟨rfl, rfl⟩
  go_wp2_with fail
  refine (hD.out _ _ HR1.out).mono ?_
  rintro e w' ⟨d, rfl, d1, d2, rfl⟩
  go_wp2_with fail
  refine (hL.out _ _ HR1.out).mono ?_
  rintro e w' ⟨rfl, rfl⟩
  go_wp2_with fail
  refine (string_of b s _ HR1.out).mono ?_
  rintro e w2 ⟨rfl, hb⟩
  have HR2 : Hid _ := HR1.out.mono hb
  have HF2 : Hid _ := HF.out.mono hb
  have B2 : Hid _ := below_trans B1.out hb
  clear hb
  go_wp2_with fail
  refine (slice_any b _ _ _ _ HR2.out).mono ?_
  rintro e w3 ⟨rfl, hb⟩
  have HF3 : Hid _ := HF2.out.mono hb
  have B3 : Hid _ := below_trans B2.out hb
  clear hb
  go_wp2_with fail
  refine (slice_any f _ _ _ _ HF3.out).mono ?_
  rintro e w4 ⟨rfl, hb⟩
  have HF4 : Hid _ := HF3.out.mono hb
  have B4 : Hid _ := below_trans B3.out hb
  clear hb
  go_wp2_with fail
  refine (string_of f s _ HF4.out).mono ?_
  rintro e w5 ⟨rfl, hb⟩
  have B5 : Hid _ := below_trans B4.out hb
  clear hb
  go_wp2_with fail
  refine (hW.out _).mono ?_
  rintro e w' ⟨rfl, rfl⟩
  go_wp2_with fail
  go_ret
  exact ⟨rfl, B5.out⟩

end Go.Proofs.Ytnhmdbmcamfbiaa
