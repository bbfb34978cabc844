import Derived.Test.YtbhlaheidlnppaaChar
namespace Go.Proofs.Ytbhlaheidlnppaa
open Go.RowKit

set_option maxRecDepth 100000 in
set_option maxHeartbeats 1000000 in
theorem char_c0 (s : ByteArray) (k : Nat) (B : Nat) (w : World) (hix : ∀ W : World, (Instr.index 9 (.string s) (.int .i64 (k : Int))).run Try.prog W = .ok (.int .u8 (B : Int)) W) (h : B < 194) :
    Calls Try.prog 39 #[.string s, .int .i64 (k : Int)] w fun e w' => e = .returned (.tuple #[.int .i64 1, .int .i64 1]) ∧ w = w' := by
  have t0 : decide ((194 : Int) ≤ (B : Int)) = false := by rw [decide_eq_false_iff_not]; omega
  have t1 : decide ((B : Int) ≤ 223) = true := by rw [decide_eq_true_eq]; omega
  have t2 : decide ((225 : Int) ≤ (B : Int)) = false := by rw [decide_eq_false_iff_not]; omega
  have t3 : decide ((B : Int) ≤ 239) = true := by rw [decide_eq_true_eq]; omega
  have t4 : decide ((241 : Int) ≤ (B : Int)) = false := by rw [decide_eq_false_iff_not]; omega
  have t5 : decide ((B : Int) ≤ 243) = true := by rw [decide_eq_true_eq]; omega
  have t6 : ((B : Int) == 224) = false := by rw [beq_eq_false_iff_ne]; omega
  have t7 : ((B : Int) == 237) = false := by rw [beq_eq_false_iff_ne]; omega
  have t8 : ((B : Int) == 240) = false := by rw [beq_eq_false_iff_ne]; omega
  have t9 : ((B : Int) == 244) = false := by rw [beq_eq_false_iff_ne]; omega
  clear h
  go_enter Try.func39, Try.ntmps39
  go_wp2_with fail
  go_ret2
  exact ⟨rfl, rfl⟩

set_option maxRecDepth 100000 in
set_option maxHeartbeats 1000000 in
theorem char_c1 (s : ByteArray) (k : Nat) (B : Nat) (f : Bool) (w : World) (hk2 : k ≤ 1099511627776) (hix : ∀ W : World, (Instr.index 9 (.string s) (.int .i64 (k : Int))).run Try.prog W = .ok (.int .u8 (B : Int)) W) (h : 194 ≤ B ∧ B ≤ 223) (C : Hid (∀ W, Calls Try.prog 51 #[.string s, .int .i64 ((k : Int) + 1), .int .u8 128, .int .u8 191, .int .i64 1] W fun e w' => e = .returned (.bool f) ∧ W = w')) :
    Calls Try.prog 39 #[.string s, .int .i64 (k : Int)] w fun e w' => e = .returned (.tuple #[.int .i64 (if f = true then 2 else 1), .int .i64 (if f = true then 1 else 1)]) ∧ w = w' := by
  have t0 : decide ((194 : Int) ≤ (B : Int)) = true := by rw [decide_eq_true_eq]; omega
  have t1 : decide ((B : Int) ≤ 223) = true := by rw [decide_eq_true_eq]; omega
  have t2 : decide ((225 : Int) ≤ (B : Int)) = false := by rw [decide_eq_false_iff_not]; omega
  have t3 : decide ((B : Int) ≤ 239) = true := by rw [decide_eq_true_eq]; omega
  have t4 : decide ((241 : Int) ≤ (B : Int)) = false := by rw [decide_eq_false_iff_not]; omega
  have t5 : decide ((B : Int) ≤ 243) = true := by rw [decide_eq_true_eq]; omega
  have t6 : ((B : Int) == 224) = false := by rw [beq_eq_false_iff_ne]; omega
  have t7 : ((B : Int) == 237) = false := by rw [beq_eq_false_iff_ne]; omega
  have t8 : ((B : Int) == 240) = false := by rw [beq_eq_false_iff_ne]; omega
  have t9 : ((B : Int) == 244) = false := by rw [beq_eq_false_iff_ne]; omega
  clear h
  cases f
  · go_enter Try.func39, Try.ntmps39
    go_wp2_with (go_at_call 51; refine (C.out _).mono ?_; rintro e w' ⟨rfl, rfl⟩)
    go_ret2
    exact ⟨rfl, rfl⟩
  · go_enter Try.func39, Try.ntmps39
    go_wp2_with (go_at_call 51; refine (C.out _).mono ?_; rintro e w' ⟨rfl, rfl⟩)
    go_ret2
    exact ⟨rfl, rfl⟩

set_option maxRecDepth 100000 in
set_option maxHeartbeats 1000000 in
theorem char_c2 (s : ByteArray) (k : Nat) (f : Bool) (w : World) (hk2 : k ≤ 1099511627776) (hix : ∀ W : World, (Instr.index 9 (.string s) (.int .i64 (k : Int))).run Try.prog W = .ok (.int .u8 224) W) (C : Hid (∀ W, Calls Try.prog 51 #[.string s, .int .i64 ((k : Int) + 1), .int .u8 160, .int .u8 191, .int .i64 2] W fun e w' => e = .returned (.bool f) ∧ W = w')) :
    Calls Try.prog 39 #[.string s, .int .i64 (k : Int)] w fun e w' => e = .returned (.tuple #[.int .i64 (if f = true then 3 else 1), .int .i64 (if f = true then 1 else 1)]) ∧ w = w' := by
  cases f
  · go_enter Try.func39, Try.ntmps39
    go_wp2_with (go_at_call 51; refine (C.out _).mono ?_; rintro e w' ⟨rfl, rfl⟩)
    go_ret2
    exact ⟨rfl, rfl⟩
  · go_enter Try.func39, Try.ntmps39
    go_wp2_with (go_at_call 51; refine (C.out _).mono ?_; rintro e w' ⟨rfl, rfl⟩)
    go_ret2
    exact ⟨rfl, rfl⟩

set_option maxRecDepth 100000 in
set_option maxHeartbeats 1000000 in
theorem char_c3 (s : ByteArray) (k : Nat) (f : Bool) (w : World) (hk2 : k ≤ 1099511627776) (hix : ∀ W : World, (Instr.index 9 (.string s) (.int .i64 (k : Int))).run Try.prog W = .ok (.int .u8 237) W) (C : Hid (∀ W, Calls Try.prog 51 #[.string s, .int .i64 ((k : Int) + 1), .int .u8 128, .int .u8 159, .int .i64 2] W fun e w' => e = .returned (.bool f) ∧ W = w')) :
    Calls Try.prog 39 #[.string s, .int .i64 (k : Int)] w fun e w' => e = .returned (.tuple #[.int .i64 (if f = true then 3 else 1), .int .i64 (if f = true then 1 else 1)]) ∧ w = w' := by
  cases f
  · go_enter Try.func39, Try.ntmps39
    go_wp2_with (go_at_call 51; refine (C.out _).mono ?_; rintro e w' ⟨rfl, rfl⟩)
    go_ret2
    exact ⟨rfl, rfl⟩
  · go_enter Try.func39, Try.ntmps39
    go_wp2_with (go_at_call 51; refine (C.out _).mono ?_; rintro e w' ⟨rfl, rfl⟩)
    go_ret2
    exact ⟨rfl, rfl⟩

set_option maxRecDepth 100000 in
set_option maxHeartbeats 1000000 in
theorem char_c4 (s : ByteArray) (k : Nat) (B : Nat) (f : Bool) (w : World) (hk2 : k ≤ 1099511627776) (hix : ∀ W : World, (Instr.index 9 (.string s) (.int .i64 (k : Int))).run Try.prog W = .ok (.int .u8 (B : Int)) W) (h : 225 ≤ B ∧ B ≤ 239 ∧ B ≠ 237) (C : Hid (∀ W, Calls Try.prog 51 #[.string s, .int .i64 ((k : Int) + 1), .int .u8 128, .int .u8 191, .int .i64 2] W fun e w' => e = .returned (.bool f) ∧ W = w')) :
    Calls Try.prog 39 #[.string s, .int .i64 (k : Int)] w fun e w' => e = .returned (.tuple #[.int .i64 (if f = true then 3 else 1), .int .i64 (if f = true then 1 else 1)]) ∧ w = w' := by
  have t0 : decide ((194 : Int) ≤ (B : Int)) = true := by rw [decide_eq_true_eq]; omega
  have t1 : decide ((B : Int) ≤ 223) = false := by rw [decide_eq_false_iff_not]; omega
  have t2 : decide ((225 : Int) ≤ (B : Int)) = true := by rw [decide_eq_true_eq]; omega
  have t3 : decide ((B : Int) ≤ 239) = true := by rw [decide_eq_true_eq]; omega
  have t4 : decide ((241 : Int) ≤ (B : Int)) = false := by rw [decide_eq_false_iff_not]; omega
  have t5 : decide ((B : Int) ≤ 243) = true := by rw [decide_eq_true_eq]; omega
  have t6 : ((B : Int) == 224) = false := by rw [beq_eq_false_iff_ne]; omega
  have t7 : ((B : Int) == 237) = false := by rw [beq_eq_false_iff_ne]; omega
  have t8 : ((B : Int) == 240) = false := by rw [beq_eq_false_iff_ne]; omega
  have t9 : ((B : Int) == 244) = false := by rw [beq_eq_false_iff_ne]; omega
  have HN : Hid ((B : Int) ≠ 237) := by
    have := h.2.2
    show (B : Int) ≠ 237
    omega
  clear h
  cases f
  · go_enter Try.func39, Try.ntmps39
    go_wp2_with (go_at_call 51; refine (C.out _).mono ?_; rintro e w' ⟨rfl, rfl⟩)
    all_goals go_ret2
    all_goals first | exact ⟨rfl, rfl⟩ | exact absurd (by assumption) HN.out
  · go_enter Try.func39, Try.ntmps39
    go_wp2_with (go_at_call 51; refine (C.out _).mono ?_; rintro e w' ⟨rfl, rfl⟩)
    all_goals go_ret2
    all_goals first | exact ⟨rfl, rfl⟩ | exact absurd (by assumption) HN.out

set_option maxRecDepth 100000 in
set_option maxHeartbeats 1000000 in
theorem char_c5 (s : ByteArray) (k : Nat) (f : Bool) (w : World) (hk2 : k ≤ 1099511627776) (hix : ∀ W : World, (Instr.index 9 (.string s) (.int .i64 (k : Int))).run Try.prog W = .ok (.int .u8 240) W) (C : Hid (∀ W, Calls Try.prog 51 #[.string s, .int .i64 ((k : Int) + 1), .int .u8 144, .int .u8 191, .int .i64 3] W fun e w' => e = .returned (.bool f) ∧ W = w')) :
    Calls Try.prog 39 #[.string s, .int .i64 (k : Int)] w fun e w' => e = .returned (.tuple #[.int .i64 (if f = true then 4 else 1), .int .i64 (if f = true then 2 else 1)]) ∧ w = w' := by
  cases f
  · go_enter Try.func39, Try.ntmps39
    go_wp2_with (go_at_call 51; refine (C.out _).mono ?_; rintro e w' ⟨rfl, rfl⟩)
    go_ret2
    exact ⟨rfl, rfl⟩
  · go_enter Try.func39, Try.ntmps39
    go_wp2_with (go_at_call 51; refine (C.out _).mono ?_; rintro e w' ⟨rfl, rfl⟩)
    go_ret2
    exact ⟨rfl, rfl⟩

set_option maxRecDepth 100000 in
set_option maxHeartbeats 1000000 in
theorem char_c6 (s : ByteArray) (k : Nat) (B : Nat) (f : Bool) (w : World) (hk2 : k ≤ 1099511627776) (hix : ∀ W : World, (Instr.index 9 (.string s) (.int .i64 (k : Int))).run Try.prog W = .ok (.int .u8 (B : Int)) W) (h : 241 ≤ B ∧ B ≤ 243) (C : Hid (∀ W, Calls Try.prog 51 #[.string s, .int .i64 ((k : Int) + 1), .int .u8 128, .int .u8 191, .int .i64 3] W fun e w' => e = .returned (.bool f) ∧ W = w')) :
    Calls Try.prog 39 #[.string s, .int .i64 (k : Int)] w fun e w' => e = .returned (.tuple #[.int .i64 (if f = true then 4 else 1), .int .i64 (if f = true then 2 else 1)]) ∧ w = w' := by
  have t0 : decide ((194 : Int) ≤ (B : Int)) = true := by rw [decide_eq_true_eq]; omega
  have t1 : decide ((B : Int) ≤ 223) = false := by rw [decide_eq_false_iff_not]; omega
  have t2 : decide ((225 : Int) ≤ (B : Int)) = true := by rw [decide_eq_true_eq]; omega
  have t3 : decide ((B : Int) ≤ 239) = false := by rw [decide_eq_false_iff_not]; omega
  have t4 : decide ((241 : Int) ≤ (B : Int)) = true := by rw [decide_eq_true_eq]; omega
  have t5 : decide ((B : Int) ≤ 243) = true := by rw [decide_eq_true_eq]; omega
  have t6 : ((B : Int) == 224) = false := by rw [beq_eq_false_iff_ne]; omega
  have t7 : ((B : Int) == 237) = false := by rw [beq_eq_false_iff_ne]; omega
  have t8 : ((B : Int) == 240) = false := by rw [beq_eq_false_iff_ne]; omega
  have t9 : ((B : Int) == 244) = false := by rw [beq_eq_false_iff_ne]; omega
  clear h
  cases f
  · go_enter Try.func39, Try.ntmps39
    go_wp2_with (go_at_call 51; refine (C.out _).mono ?_; rintro e w' ⟨rfl, rfl⟩)
    go_ret2
    exact ⟨rfl, rfl⟩
  · go_enter Try.func39, Try.ntmps39
    go_wp2_with (go_at_call 51; refine (C.out _).mono ?_; rintro e w' ⟨rfl, rfl⟩)
    go_ret2
    exact ⟨rfl, rfl⟩

set_option maxRecDepth 100000 in
set_option maxHeartbeats 1000000 in
theorem char_c7 (s : ByteArray) (k : Nat) (f : Bool) (w : World) (hk2 : k ≤ 1099511627776) (hix : ∀ W : World, (Instr.index 9 (.string s) (.int .i64 (k : Int))).run Try.prog W = .ok (.int .u8 244) W) (C : Hid (∀ W, Calls Try.prog 51 #[.string s, .int .i64 ((k : Int) + 1), .int .u8 128, .int .u8 143, .int .i64 3] W fun e w' => e = .returned (.bool f) ∧ W = w')) :
    Calls Try.prog 39 #[.string s, .int .i64 (k : Int)] w fun e w' => e = .returned (.tuple #[.int .i64 (if f = true then 4 else 1), .int .i64 (if f = true then 2 else 1)]) ∧ w = w' := by
  cases f
  · go_enter Try.func39, Try.ntmps39
    go_wp2_with (go_at_call 51; refine (C.out _).mono ?_; rintro e w' ⟨rfl, rfl⟩)
    go_ret2
    exact ⟨rfl, rfl⟩
  · go_enter Try.func39, Try.ntmps39
    go_wp2_with (go_at_call 51; refine (C.out _).mono ?_; rintro e w' ⟨rfl, rfl⟩)
    go_ret2
    exact ⟨rfl, rfl⟩

set_option maxRecDepth 100000 in
set_option maxHeartbeats 1000000 in
theorem char_c8 (s : ByteArray) (k : Nat) (B : Nat) (w : World) (hix : ∀ W : World, (Instr.index 9 (.string s) (.int .i64 (k : Int))).run Try.prog W = .ok (.int .u8 (B : Int)) W) (h : 245 ≤ B) :
    Calls Try.prog 39 #[.string s, .int .i64 (k : Int)] w fun e w' => e = .returned (.tuple #[.int .i64 1, .int .i64 1]) ∧ w = w' := by
  have t0 : decide ((194 : Int) ≤ (B : Int)) = true := by rw [decide_eq_true_eq]; omega
  have t1 : decide ((B : Int) ≤ 223) = false := by rw [decide_eq_false_iff_not]; omega
  have t2 : decide ((225 : Int) ≤ (B : Int)) = true := by rw [decide_eq_true_eq]; omega
  have t3 : decide ((B : Int) ≤ 239) = false := by rw [decide_eq_false_iff_not]; omega
  have t4 : decide ((241 : Int) ≤ (B : Int)) = true := by rw [decide_eq_true_eq]; omega
  have t5 : decide ((B : Int) ≤ 243) = false := by rw [decide_eq_false_iff_not]; omega
  have t6 : ((B : Int) == 224) = false := by rw [beq_eq_false_iff_ne]; omega
  have t7 : ((B : Int) == 237) = false := by rw [beq_eq_false_iff_ne]; omega
  have t8 : ((B : Int) == 240) = false := by rw [beq_eq_false_iff_ne]; omega
  have t9 : ((B : Int) == 244) = false := by rw [beq_eq_false_iff_ne]; omega
  clear h
  go_enter Try.func39, Try.ntmps39
  go_wp2_with fail
  go_ret2
  exact ⟨rfl, rfl⟩

theorem char_any (s : ByteArray) (k : Nat) (w : World) (hk : k < s.size) (hs : s.size ≤ 1099511627776) :
    Calls Try.prog 39 #[.string s, .int .i64 (k : Int)] w fun e w' => e = .returned (.tuple #[.int .i64 (cw s k : Int), .int .i64 (cu s k : Int)]) ∧ w = w' := by
  have hix := idx_fact s k hk
  have hB := (s.get! k).toNat_lt
  have C : ∀ (lo hi n : Nat), n ≤ 3 → ∀ W, Calls Try.prog 51 #[.string s, .int .i64 ((k : Int) + 1), .int .u8 (lo : Int), .int .u8 (hi : Int), .int .i64 (n : Int)] W fun e w' => e = .returned (.bool (fol s (k + 1) lo hi n)) ∧ W = w' := fun lo hi n hn W => by
    have := follows_any s (k + 1) lo hi n W (by omega) hn hs
    rwa [show (((k + 1 : Nat)) : Int) = (k : Int) + 1 by omega] at this
  have HE := char_eq s k
  unfold charS at HE
  have hk2 : k ≤ 1099511627776 := by omega
  obtain ⟨B, hBe⟩ : ∃ B, B = (s.get! k).toNat := ⟨_, rfl⟩
  rw [← hBe] at hix HE hB
  by_cases a0 : 194 ≤ B ∧ B ≤ 223
  · refine (char_c1 s k B _ w hk2 hix a0 (C 128 191 1 (by omega))).mono fun e w' h => ⟨?_, h.2⟩
    rw [h.1]
    cases hf : fol s (k + 1) 128 191 1
    · rw [hf] at HE
      rw [if_neg (by simp), if_neg (by omega), if_neg (by omega), if_neg (by omega), if_neg (by omega), if_neg (by omega), if_neg (by omega)] at HE
      simp only [Prod.mk.injEq] at HE
      rw [← HE.1, ← HE.2]; rfl
    · rw [hf] at HE
      rw [if_pos ⟨a0.1, a0.2, rfl⟩] at HE
      simp only [Prod.mk.injEq] at HE
      rw [← HE.1, ← HE.2]; rfl
  · rw [if_neg (by omega)] at HE
    by_cases a1 : B = 224
    · subst a1
      refine (char_c2 s k _ w hk2 hix (C 160 191 2 (by omega))).mono fun e w' h => ⟨?_, h.2⟩
      rw [h.1]
      cases hf : fol s (k + 1) 160 191 2
      · rw [hf] at HE
        rw [if_neg (by simp), if_neg (by omega), if_neg (by omega), if_neg (by omega), if_neg (by omega), if_neg (by omega)] at HE
        simp only [Prod.mk.injEq] at HE
        rw [← HE.1, ← HE.2]; rfl
      · rw [hf] at HE
        rw [if_pos ⟨rfl, rfl⟩] at HE
        simp only [Prod.mk.injEq] at HE
        rw [← HE.1, ← HE.2]; rfl
    · rw [if_neg (by omega)] at HE
      by_cases a2 : B = 237
      · subst a2
        refine (char_c3 s k _ w hk2 hix (C 128 159 2 (by omega))).mono fun e w' h => ⟨?_, h.2⟩
        rw [h.1]
        cases hf : fol s (k + 1) 128 159 2
        · rw [hf] at HE
          rw [if_neg (by simp), if_neg (by omega), if_neg (by omega), if_neg (by omega), if_neg (by omega)] at HE
          simp only [Prod.mk.injEq] at HE
          rw [← HE.1, ← HE.2]; rfl
        · rw [hf] at HE
          rw [if_pos ⟨rfl, rfl⟩] at HE
          simp only [Prod.mk.injEq] at HE
          rw [← HE.1, ← HE.2]; rfl
      · rw [if_neg (by omega)] at HE
        by_cases a3 : 225 ≤ B ∧ B ≤ 239 ∧ B ≠ 237
        · refine (char_c4 s k B _ w hk2 hix a3 (C 128 191 2 (by omega))).mono fun e w' h => ⟨?_, h.2⟩
          rw [h.1]
          cases hf : fol s (k + 1) 128 191 2
          · rw [hf] at HE
            rw [if_neg (by simp), if_neg (by omega), if_neg (by omega), if_neg (by omega)] at HE
            simp only [Prod.mk.injEq] at HE
            rw [← HE.1, ← HE.2]; rfl
          · rw [hf] at HE
            rw [if_pos ⟨a3.1, a3.2.1, a3.2.2, rfl⟩] at HE
            simp only [Prod.mk.injEq] at HE
            rw [← HE.1, ← HE.2]; rfl
        · rw [if_neg (by omega)] at HE
          by_cases a4 : B = 240
          · subst a4
            refine (char_c5 s k _ w hk2 hix (C 144 191 3 (by omega))).mono fun e w' h => ⟨?_, h.2⟩
            rw [h.1]
            cases hf : fol s (k + 1) 144 191 3
            · rw [hf] at HE
              rw [if_neg (by simp), if_neg (by omega), if_neg (by omega)] at HE
              simp only [Prod.mk.injEq] at HE
              rw [← HE.1, ← HE.2]; rfl
            · rw [hf] at HE
              rw [if_pos ⟨rfl, rfl⟩] at HE
              simp only [Prod.mk.injEq] at HE
              rw [← HE.1, ← HE.2]; rfl
          · rw [if_neg (by omega)] at HE
            by_cases a5 : 241 ≤ B ∧ B ≤ 243
            · refine (char_c6 s k B _ w hk2 hix a5 (C 128 191 3 (by omega))).mono fun e w' h => ⟨?_, h.2⟩
              rw [h.1]
              cases hf : fol s (k + 1) 128 191 3
              · rw [hf] at HE
                rw [if_neg (by simp), if_neg (by omega)] at HE
                simp only [Prod.mk.injEq] at HE
                rw [← HE.1, ← HE.2]; rfl
              · rw [hf] at HE
                rw [if_pos ⟨a5.1, a5.2, rfl⟩] at HE
                simp only [Prod.mk.injEq] at HE
                rw [← HE.1, ← HE.2]; rfl
            · rw [if_neg (by omega)] at HE
              by_cases a6 : B = 244
              · subst a6
                refine (char_c7 s k _ w hk2 hix (C 128 143 3 (by omega))).mono fun e w' h => ⟨?_, h.2⟩
                rw [h.1]
                cases hf : fol s (k + 1) 128 143 3
                · rw [hf] at HE
                  rw [if_neg (by simp)] at HE
                  simp only [Prod.mk.injEq] at HE
                  rw [← HE.1, ← HE.2]; rfl
                · rw [hf] at HE
                  rw [if_pos ⟨rfl, rfl⟩] at HE
                  simp only [Prod.mk.injEq] at HE
                  rw [← HE.1, ← HE.2]; rfl
              · rw [if_neg (by omega)] at HE
                simp only [Prod.mk.injEq] at HE
                rw [← HE.1, ← HE.2]
                by_cases z : B < 194
                · exact char_c0 s k B w hix z
                · exact char_c8 s k B w hix (by omega)

end Go.Proofs.Ytbhlaheidlnppaa
