import Derived.Test.YteaanieohcanlaaDoorRwc
namespace Go.Proofs.YteaanieohcanlaaDoor
open Go.RowKit Go.Maps

theorem hx_fact : ∀ n : Fin 16, (⟨#[48, 49, 50, 51, 52, 53, 54, 55, 56, 57, 97, 98, 99, 100, 101, 102, 65, 66, 67, 68, 69, 70]⟩ : ByteArray).extract n.val (n.val + 1) = ⟨#[dgt n.val]⟩ := by decide +kernel
theorem sl_fact (a a1 : Nat) (ha : a < 16) (h1 : a + 1 = a1) : ∀ W : World, (Instr.slice 9 (.string ⟨#[48, 49, 50, 51, 52, 53, 54, 55, 56, 57, 97, 98, 99, 100, 101, 102, 65, 66, 67, 68, 69, 70]⟩) (some (.int .u8 (a : Int))) (some (.int .u8 (a1 : Int))) none).run Tryd.prog W = .ok (.string ⟨#[dgt a]⟩) W := by
  intro W
  have hs : (⟨#[48, 49, 50, 51, 52, 53, 54, 55, 56, 57, 97, 98, 99, 100, 101, 102, 65, 66, 67, 68, 69, 70]⟩ : ByteArray).size = 22 := rfl
  rw [run_slice_string_if W 9 _ .u8 .u8 _ _ Tryd.underlying9, hs, if_pos ⟨by omega, by omega⟩, if_pos ⟨by omega, by omega⟩]
  have e1 : ((a : Int)).toNat = a := by omega
  have e2 : ((a1 : Int)).toNat = a + 1 := by omega
  rw [e1, e2, hx_fact ⟨a, ha⟩]
set_option maxRecDepth 100000 in
set_option maxHeartbeats 8000000 in
theorem byteOf_hex (n : Nat) (h34 : ¬ n = 34) (h92 : ¬ n = 92) (h10 : ¬ n = 10) (h9 : ¬ n = 9) (h13 : ¬ n = 13) (h : n < 32 ∨ 126 < n) (x : UInt8) (hn : x.toNat = n) (w : World) : Calls Tryd.prog 26 #[.int .u8 (n : Int)] w fun e w' => e = .returned (.string ⟨(wrt x).toArray⟩) ∧ Below w.heap.size w w' := by
  have hw := wrt_n x n hn
  have hn8 : n < 256 := by rw [← hn]; exact UInt8.toNat_lt x
  rw [if_neg h34, if_neg h92, if_neg h10, if_neg h9, if_neg h13, if_pos h] at hw
  obtain ⟨a, ha⟩ : ∃ a, n / 16 = a := ⟨_, rfl⟩
  obtain ⟨b, hb⟩ : ∃ b, n % 16 = b := ⟨_, rfl⟩
  rw [ha, hb] at hw
  have HW : Hid _ := hw
  have HAB : Hid (a < 16 ∧ b < 16) := ⟨by omega, by omega⟩
  have hda : (n : Int) / 16 = (a : Int) := by omega
  have hmb : (n : Int) % 16 = (b : Int) := by omega
  have m34 : ((n : Int) == 34) = false := by rw [beq_eq_false_iff_ne]; omega
  have m92 : ((n : Int) == 92) = false := by rw [beq_eq_false_iff_ne]; omega
  have m10 : ((n : Int) == 10) = false := by rw [beq_eq_false_iff_ne]; omega
  have m9 : ((n : Int) == 9) = false := by rw [beq_eq_false_iff_ne]; omega
  have m13 : ((n : Int) == 13) = false := by rw [beq_eq_false_iff_ne]; omega
  have HD : Hid (n < 32 ∨ 126 < n) := h
  clear h34 h92 h10 h9 h13 hn hw h hn8 ha hb
  obtain ⟨a1, ha1⟩ : ∃ a1, a + 1 = a1 := ⟨_, rfl⟩
  obtain ⟨b1, hb1⟩ : ∃ b1, b + 1 = b1 := ⟨_, rfl⟩
  have wa : IntKind.u8.wrap ((a : Int) + 1) = (a1 : Int) := by have := HAB.out; rw [IntKind.wrap_u8]; omega
  have wb : IntKind.u8.wrap ((b : Int) + 1) = (b1 : Int) := by have := HAB.out; rw [IntKind.wrap_u8]; omega
  have wa0 : IntKind.u8.wrap (a : Int) = (a : Int) := by have := HAB.out; rw [IntKind.wrap_u8]; omega
  have wb0 : IntKind.u8.wrap (b : Int) = (b : Int) := by have := HAB.out; rw [IntKind.wrap_u8]; omega
  have s1 := sl_fact a a1 HAB.out.1 ha1
  have s2 := sl_fact b b1 HAB.out.2 hb1
  clear ha1 hb1
  by_cases c : n < 32
  · have l1 : decide ((n : Int) < 32) = true := by rw [decide_eq_true_eq]; omega
    have l2 : decide (n < 32) = true := by rw [decide_eq_true_eq]; omega
    clear c
    go_enter Tryd.func26, Tryd.ntmps26
    go_upto_region 13 with fail
    go_quiet (fail)
    go_wp2_with fail
    go_ret
    exact ⟨by rw [HW.out]; rfl, below_drewN (Below.refl _ _) _⟩
  · have l1 : decide ((n : Int) < 32) = false := by rw [decide_eq_false_iff_not]; omega
    have l2 : decide (n < 32) = false := by rw [decide_eq_false_iff_not]; omega
    have l3 : decide ((126 : Int) < (n : Int)) = true := by have := HD.out; rw [decide_eq_true_eq]; omega
    have l4 : decide (126 < n) = true := by have := HD.out; rw [decide_eq_true_eq]; omega
    clear c
    go_enter Tryd.func26, Tryd.ntmps26
    go_upto_region 13 with fail
    go_quiet (fail)
    go_wp2_with fail
    go_ret
    exact ⟨by rw [HW.out]; rfl, below_drewN (Below.refl _ _) _⟩
set_option maxRecDepth 100000 in
set_option maxHeartbeats 8000000 in
theorem byteOf_plain (n : Nat) (h34 : ¬ n = 34) (h92 : ¬ n = 92) (h10 : ¬ n = 10) (h9 : ¬ n = 9) (h13 : ¬ n = 13) (h : ¬ (n < 32 ∨ 126 < n)) (x : UInt8) (hn : x.toNat = n) (w : World) : Calls Tryd.prog 26 #[.int .u8 (n : Int)] w fun e w' => e = .returned (.string ⟨(wrt x).toArray⟩) ∧ Below w.heap.size w w' := by
  have hw := wrt_n x n hn
  rw [if_neg h34, if_neg h92, if_neg h10, if_neg h9, if_neg h13, if_neg h] at hw
  have HW : Hid _ := hw
  have m34 : ((n : Int) == 34) = false := by rw [beq_eq_false_iff_ne]; omega
  have m92 : ((n : Int) == 92) = false := by rw [beq_eq_false_iff_ne]; omega
  have m10 : ((n : Int) == 10) = false := by rw [beq_eq_false_iff_ne]; omega
  have m9 : ((n : Int) == 9) = false := by rw [beq_eq_false_iff_ne]; omega
  have m13 : ((n : Int) == 13) = false := by rw [beq_eq_false_iff_ne]; omega
  have l1 : decide ((n : Int) < 32) = false := by rw [decide_eq_false_iff_not]; omega
  have l2 : decide (n < 32) = false := by rw [decide_eq_false_iff_not]; omega
  have l3 : decide ((126 : Int) < (n : Int)) = false := by rw [decide_eq_false_iff_not]; omega
  have l4 : decide (126 < n) = false := by rw [decide_eq_false_iff_not]; omega
  obtain ⟨w1, hw1⟩ : ∃ w1, w1 = w.alloc (.cells #[.int .u8 (n : Int)] 5) := ⟨_, rfl⟩
  have HW1 : Hid (w1 = w.alloc (.cells #[.int .u8 (n : Int)] 5)) := hw1
  have HBY : Hid (Byt w.heap.size (w.alloc (.cells #[.int .u8 (n : Int)] 5)) (.slice (some ⟨w.heap.size, 0, none⟩) 1 1) [x]) := by
    rw [← hn]
    exact ⟨rfl, .inr ⟨_, _, _, rfl, Nat.le_refl _, heap_new w _, Nat.le_refl 1, by unfold maxLen; decide, rfl, rfl⟩⟩
  have hcv := byt_conv HBY.out
  clear h34 h92 h10 h9 h13 hn hw h hw1
  go_enter Tryd.func26, Tryd.ntmps26
  go_wp2_with fail
  go_ret
  exact ⟨by rw [HW.out]; rfl, bel_up _ _⟩
theorem byteOf_any (x : UInt8) (w : World) : Calls Tryd.prog 26 #[.int .u8 (x.toNat : Int)] w fun e w' => e = .returned (.string ⟨(wrt x).toArray⟩) ∧ Below w.heap.size w w' := by
  by_cases h5 : x.toNat = 34 ∨ x.toNat = 92 ∨ x.toNat = 10 ∨ x.toNat = 9 ∨ x.toNat = 13
  · exact byteOf_five _ h5 x rfl w
  · by_cases h : x.toNat < 32 ∨ 126 < x.toNat
    · exact byteOf_hex _ (fun e => h5 (.inl e)) (fun e => h5 (.inr (.inl e))) (fun e => h5 (.inr (.inr (.inl e)))) (fun e => h5 (.inr (.inr (.inr (.inl e))))) (fun e => h5 (.inr (.inr (.inr (.inr e))))) h x rfl w
    · exact byteOf_plain _ (fun e => h5 (.inl e)) (fun e => h5 (.inr (.inl e))) (fun e => h5 (.inr (.inr (.inl e)))) (fun e => h5 (.inr (.inr (.inr (.inl e))))) (fun e => h5 (.inr (.inr (.inr (.inr e))))) h x rfl w
end Go.Proofs.YteaanieohcanlaaDoor
