import Derived.Test.YthfijmabagjdkaaQtj
namespace Go.Proofs.Ythfijmabagjdkaa.Qy
open Go.RowKit Go.Maps

/-! Lists that Parse answers are short. -/
theorem cdL_nq {L : List Wd} : ∀ (n : Nat) (m : Rm), (m.e = 0 → m.at_ ≤ L.length) → m.cs.length ≤ 16 → (cdL L n m).ns = m.ns ∧ (cdL L n m).cs.length ≤ 16
  | 0, _, _, hc => ⟨rfl, hc⟩
  | n + 1, m, hl, hc => by
    by_cases h : m.e = 0 ∧ m.at_ < L.length
    · rw [cdL, if_pos h]
      obtain ⟨h1, h2, h3⟩ := cdR_nq h.1 h.2 hc
      obtain ⟨i1, i2⟩ := cdL_nq n (cdR L m) (fun e => (h3 e).1) h2
      exact ⟨i1.trans h1, i2⟩
    · rw [cdL, if_neg h]
      exact ⟨rfl, hc⟩
theorem psr_small (s : ByteArray) : (psr s).1.length ≤ 32 ∧ (psr s).2.1.length ≤ 16 := by
  cases hA : cutR s with
  | inl p =>
    obtain ⟨c, o⟩ := p
    have e3 : psr s = ([], [], (c : Int), (o : Int)) := by unfold psr; rw [hA]
    rw [e3]
    exact ⟨Nat.zero_le _, Nat.zero_le _⟩
  | inr L =>
    rw [psr_ref s L hA]
    by_cases h : (rmA L).e = 0
    · rw [if_pos h]
      have hp : (rmP L).e = 0 := by
        by_cases k : (rmP L).e = 0
        · exact k
        · have : rmA L = rmP L := cdL_err k _
          rw [this] at h
          exact absurd h k
      obtain ⟨h1, h2, h3⟩ := rmP_ok L hp
      obtain ⟨i1, i2⟩ := cdL_nq (L := L) (L.length - (rmP L).at_ + 1) (rmP L) (fun _ => h1) (by rw [h2]; decide)
      refine ⟨?_, i2⟩
      show (rmA L).ns.length ≤ 32
      have : (rmA L).ns = (rmP L).ns := i1
      rw [this]
      exact h3
    · rw [if_neg h]
      exact ⟨Nat.zero_le _, Nat.zero_le _⟩
end Go.Proofs.Ythfijmabagjdkaa.Qy
