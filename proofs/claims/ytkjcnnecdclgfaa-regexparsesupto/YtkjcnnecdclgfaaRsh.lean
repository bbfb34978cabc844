import Derived.Test.YtkjcnnecdclgfaaBeg
namespace Go.Proofs.Ytkjcnnecdclgfaa
open Go.RowKit
set_option maxRecDepth 100000 in
set_option maxHeartbeats 4000000 in
theorem rshaped_any (re : List Nd) (ao : Option Addr) (g o cap : Nat) (w : World) (hao : re ≠ [] → ao = some ⟨g, o, none⟩) (hn : NdsAt w g o re) (hg : re ≠ [] → g < w.heap.size) (hl : re.length < 1000000000000) :
    Calls Try.prog 10 #[.slice ao re.length cap] w fun e w' => e = .returned (.bool (Sh re)) ∧ Below w.heap.size w w' := by
  by_cases h0 : re.length = 0
  · have hs : Sh re = false := by
      have : re = [] := List.length_eq_zero_iff.1 h0
      rw [this]; rfl
    rw [h0]
    clear hao hn hg hl
    go_enter Try.func10, Try.ntmps10
    go_wp2_with fail
    go_ret
    exact ⟨by rw [hs]; rfl, Below.refl _ _⟩
  by_cases h128 : 128 < re.length
  · have hs : Sh re = false := by
      unfold Sh
      split
      · rfl
      · have : ¬ re.length ≤ 128 := by omega
        simp [this]
    have HS : Hid _ := hs
    obtain ⟨n, hnn⟩ : ∃ n, re.length = n := ⟨_, rfl⟩
    rw [hnn] at h0 h128 ⊢
    have e0 : ((n : Int) == 0) = false := by rw [beq_eq_false_iff_ne]; omega
    have e1 : decide ((128 : Int) < (n : Int)) = true := by rw [decide_eq_true_eq]; omega
    clear hao hn hg hl h0 h128 hnn hs
    go_enter Try.func10, Try.ntmps10
    go_wp2_with fail
    go_ret
    exact ⟨by rw [HS.out]; rfl, Below.refl _ _⟩
  have S := begins_any re ao g o cap w hao hn hg (by omega)
  have hne : re ≠ [] := fun h => h0 (by rw [h]; rfl)
  obtain ⟨n, hnn⟩ : ∃ n, re.length = n := ⟨_, rfl⟩
  have HNN : Hid _ := hnn
  rw [hnn] at h0 h128 S ⊢
  have e0 : ((n : Int) == 0) = false := by rw [beq_eq_false_iff_ne]; omega
  have e1 : decide ((128 : Int) < (n : Int)) = false := by rw [decide_eq_false_iff_not]; omega
  have HL : Hid (1 ≤ n ∧ n ≤ 128) := ⟨by omega, by omega⟩
  clear hao hn hg hl h0 h128 hnn hne
  go_enter Try.func10, Try.ntmps10
  go_wp2_with fail
  refine S.mono ?_
  rintro e w1 ⟨h1, hb1⟩
  have HB : Hid _ := hb1
  clear hb1 S
  cases hz : szs re [] with
  | none =>
    rw [hz] at h1
    have hs : Sh re = false := by unfold Sh; rw [hz]
    have HS : Hid _ := hs
    clear hs hz
    subst h1
    go_wp2_with fail
    go_ret
    exact ⟨by rw [HS.out]; rfl, HB.out⟩
  | some z =>
    rw [hz] at h1
    obtain ⟨v, rfl, hown⟩ := h1
    have hzl := szs_ok hz zok_nil
    have hzn : z.length = n := by rw [hzl.2, HNN.out]; simp
    rw [hzn] at hown
    obtain ⟨g4, cc, rfl, _, _, _⟩ := own_form hown HL.out.1
    obtain ⟨u, hu⟩ : ∃ u, n - 1 = u := ⟨_, rfl⟩
    have hun : u < n := by have := HL.out; omega
    have cj := hown.cellAt u (by omega)
    rw [fos_at z u (by omega)] at cj
    have hzu := hzl.1 u (by omega)
    obtain ⟨x, hx⟩ : ∃ x, z.getD u 0 = x := ⟨_, rfl⟩
    rw [hx] at cj hzu
    have hsh : Sh re = decide (x = n) := by
      unfold Sh
      rw [hz]
      have h1 : decide (re.length ≠ 0) = true := by rw [decide_eq_true_eq, HNN.out]; have := HL.out; omega
      have h2 : decide (re.length ≤ 128) = true := by rw [decide_eq_true_eq, HNN.out]; have := HL.out; omega
      dsimp only
      rw [h1, h2, HNN.out, hu, hx]
      rfl
    have HSH : Hid _ := hsh
    have HZU : Hid _ := hzu
    have hw1 : wrap64 ((n : Int) - 1) = (u : Int) := by have := HL.out; unfold wrap64; omega
    obtain ⟨fv, hfv⟩ : ∃ fv, u + 1 - x = fv := ⟨_, rfl⟩
    rw [hfv] at cj
    have HFV : Hid _ := hfv
    have HU : Hid _ := hu
    clear hz hown hzl hzn hu hx hsh hzu hfv
    by_cases hf0 : fv = 0
    · subst hf0
      go_wp2_with fail
      go_ret
      refine ⟨ret_bool ?_, HB.out⟩
      rw [HSH.out]
      have : x = n := by have h1 := HFV.out; have h2 := HZU.out; have h3 := HU.out; have h4 := HL.out; omega
      simp [this]
    · have ef : ((fv : Int) == 0) = false := by rw [beq_eq_false_iff_ne]; omega
      go_wp2_with fail
      go_ret
      refine ⟨ret_bool ?_, HB.out⟩
      rw [HSH.out]
      have : ¬ x = n := by have h1 := HFV.out; have h2 := HZU.out; have h3 := HU.out; have h4 := HL.out; omega
      first
      | (rw [ef]; simp [this])
      | simp [this]
end Go.Proofs.Ytkjcnnecdclgfaa
