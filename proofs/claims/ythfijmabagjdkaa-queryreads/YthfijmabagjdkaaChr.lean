import Derived.Test.YthfijmabagjdkaaBas
import Derived.Test.YthfijmabagjdkaaShelf
namespace Go.Proofs.Ythfijmabagjdkaa
open Go.RowKit Go.Maps

set_option maxHeartbeats 1000000 in
theorem blank_any (b : Int) (w : World) : Calls Try.prog 32 #[.int .i64 b] w fun e w' => e = .returned (.bool (isB b)) ∧ w' = w := by
  unfold isB
  go_enter Try.func32, Try.ntmps32
  by_cases h1 : b = 32
  · subst h1
    go_wp2_with fail
    go_ret
    exact ⟨rfl, rfl⟩
  · by_cases h2 : b = 9
    · subst h2
      go_wp2_with fail
      go_ret
      exact ⟨rfl, rfl⟩
    · by_cases h3 : b = 13
      · subst h3
        go_wp2_with fail
        go_ret
        exact ⟨rfl, rfl⟩
      · go_wp2_with fail
        go_ret
        exact ⟨ret_bool (by simp), rfl⟩

set_option maxHeartbeats 1000000 in
theorem digit_any (b : Int) (w : World) : Calls Try.prog 34 #[.int .i64 b] w fun e w' => e = .returned (.bool (isD b)) ∧ w' = w := by
  unfold isD
  go_enter Try.func34, Try.ntmps34
  by_cases c0 : 48 ≤ b
  · have d0 : decide (48 ≤ b) = true := by simpa using c0
    rw [d0]
    go_wp2_with fail
    go_ret
    exact ⟨rfl, rfl⟩
  · have d0 : decide (48 ≤ b) = false := by simpa using c0
    rw [d0]
    go_wp2_with fail
    go_ret
    exact ⟨rfl, rfl⟩

set_option maxHeartbeats 2000000 in
theorem letter_any (b : Int) (w : World) : Calls Try.prog 33 #[.int .i64 b] w fun e w' => e = .returned (.bool (isL b)) ∧ w' = w := by
  obtain ⟨R, hR⟩ : ∃ R, isL b = R := ⟨_, rfl⟩
  rw [hR]
  unfold isL at hR
  have HR : Hid _ := hR
  clear hR
  go_enter Try.func33, Try.ntmps33
  cases d0 : decide (97 ≤ b) <;> cases d1 : decide (b ≤ 122) <;> cases d2 : decide (65 ≤ b) <;> cases d3 : decide (b ≤ 90) <;> cases d4 : (b == 95)
  all_goals
    have h := HR.out
    rw [d0, d1, d2, d3, d4] at h
    subst h
    clear HR
    go_wp2_with fail
    go_ret
    exact ⟨rfl, rfl⟩
set_option maxHeartbeats 2000000 in
theorem inname_any (b : Int) (w : World) : Calls Try.prog 39 #[.int .i64 b] w fun e w' => e = .returned (.bool (isN b)) ∧ w' = w := by
  unfold isN
  go_enter Try.func39, Try.ntmps39
  go_wp2_with fail
  refine (letter_any b w).mono ?_
  rintro e w' ⟨rfl, rfl⟩
  cases d0 : isL b
  · go_wp2_with fail
    refine (digit_any b w').mono ?_
    rintro e w1 ⟨rfl, rfl⟩
    go_wp2_with fail
    go_ret
    exact ⟨by rw [d0]; rfl, rfl⟩
  · go_wp2_with fail
    go_ret
    exact ⟨by rw [d0]; rfl, rfl⟩

theorem sgn_all : ∀ n : Fin 256, decide (0 ≤ Lib.indexByte [123, 125, 40, 41, 124, 42, 43, 63, 58, 59, 44, 61, 64] (Nat.toUInt8 n.val)) = isS (n.val : Int) := by decide +kernel
/-- What is read: a byte, or the end. -/
def okb (b : Int) : Prop := b = -1 ∨ ∃ n : Nat, n < 256 ∧ b = (n : Int)
set_option maxHeartbeats 2000000 in
theorem sign_any (b : Int) (hb : okb b) (w : World) : Calls Try.prog 35 #[.int .i64 b] w fun e w' => e = .returned (.bool (isS b)) ∧ w' = w := by
  rcases hb with rfl | ⟨n, hn, rfl⟩
  · go_enter Try.func35, Try.ntmps35
    go_wp2_with fail
    go_ret
    exact ⟨rfl, rfl⟩
  · have HA : Hid (decide (0 ≤ Lib.indexByte [123, 125, 40, 41, 124, 42, 43, 63, 58, 59, 44, 61, 64] (Nat.toUInt8 n)) = isS (n : Int)) := sgn_all ⟨n, hn⟩
    have h1 : ¬ ((n : Int) = -1) := by omega
    have h2 : IntKind.u8.wrap (n : Int) = (n : Int) := by simp [IntKind.wrap, IntKind.bits, IntKind.signed]; omega
    clear hn
    go_enter Try.func35, Try.ntmps35
    go_wp2_with fail
    refine (Try.strings_IndexByte _ _ w).mono ?_
    rintro e w1 ⟨rfl, rfl⟩
    go_wp2_with fail
    go_ret
    refine ⟨ret_bool ?_, rfl⟩
    rw [← HA.out]
    rfl
set_option maxHeartbeats 1000000 in
theorem stops_any (b : Int) (w : World) : Calls Try.prog 38 #[.int .i64 b] w fun e w' => e = .returned (.bool (b == -1 || b == 10)) ∧ w' = w := by
  go_enter Try.func38, Try.ntmps38
  by_cases h1 : b = -1
  · subst h1
    go_wp2_with fail
    go_ret
    exact ⟨rfl, rfl⟩
  · have h2 : (b == -1) = false := by simpa using h1
    rw [h2]
    go_wp2_with fail
    go_ret
    exact ⟨rfl, rfl⟩
set_option maxHeartbeats 2000000 in
theorem base16_any (b : Int) (hb : okb b) (w : World) : Calls Try.prog 67 #[.int .i64 b] w fun e w' => e = .returned (.int .i64 (hxv b)) ∧ w' = w := by
  have hlo : -1 ≤ b ∧ b < 256 := by rcases hb with rfl | ⟨n, hn, rfl⟩ <;> omega
  clear hb
  obtain ⟨R, hR⟩ : ∃ R, hxv b = R := ⟨_, rfl⟩
  rw [hR]
  unfold hxv at hR
  have HR : Hid _ := hR
  have HL : Hid _ := hlo
  clear hR hlo
  go_enter Try.func67, Try.ntmps67
  go_wp2_with fail
  refine (digit_any b w).mono ?_
  rintro e w1 ⟨rfl, rfl⟩
  cases d : isD b
  · have h := HR.out
    rw [d] at h
    simp only [Bool.false_eq_true, if_false] at h
    by_cases c1 : 97 ≤ b
    · by_cases c2 : b ≤ 102
      · have e1 : IntKind.i64.wrap (IntKind.i64.wrap (b - 97) + 10) = b - 87 := by rw [IntKind.wrap_i64, IntKind.wrap_i64]; omega
        go_wp2_with fail
        go_ret
        refine ⟨ret_int ?_, rfl⟩
        rw [← h]; repeat' split
        all_goals omega
      · have c3 : ¬ b ≤ 70 := by omega
        go_wp2_with fail
        go_ret
        refine ⟨ret_int ?_, rfl⟩
        rw [← h]; repeat' split
        all_goals omega
    · by_cases c2 : 65 ≤ b
      · by_cases c3 : b ≤ 70
        · go_wp2_with fail
          go_ret
          refine ⟨ret_int ?_, rfl⟩
          rw [← h]; repeat' split
          all_goals omega
        · go_wp2_with fail
          go_ret
          refine ⟨ret_int ?_, rfl⟩
          rw [← h]; repeat' split
          all_goals omega
      · go_wp2_with fail
        go_ret
        refine ⟨ret_int ?_, rfl⟩
        rw [← h]; repeat' split
        all_goals omega
  · have h := HR.out
    rw [d] at h
    simp only [if_true] at h
    have hd := d
    unfold isD at hd
    simp at hd
    go_wp2_with fail
    go_ret
    refine ⟨ret_int ?_, rfl⟩
    rw [← h]; repeat' split
    all_goals omega
end Go.Proofs.Ythfijmabagjdkaa
