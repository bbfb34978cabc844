import Derived.Test.YtkaciochlemjiabPure
namespace Go.Proofs.Ytkaciochlemjiab
/-! What the reference's own ways come to. -/

/-- The reference's width. -/
def rwid : Nat → List UInt8 → Nat
  | w, [] => w
  | w, b :: l => rwid (if b = 10 then 0 else if b = 9 then (w / 8 + 1) * 8 else w + 1) l
theorem wid_snoc2 (b : UInt8) : ∀ (l : List UInt8) (w : Nat), wid w (l ++ [b]) = (if b = 9 then wid w l + (8 - wid w l % 8) else wid w l + 1)
  | [], w => rfl
  | c :: l, w => by
    show wid _ (l ++ [b]) = _
    rw [wid_snoc2 b l]
    rfl
theorem rwid_lst : ∀ (l acc : List UInt8), rwid (wid 0 acc) l = wid 0 (lastL acc l)
  | [], acc => rfl
  | b :: l, acc => by
    unfold rwid lastL
    by_cases h : b = 10
    · rw [if_pos h, if_pos h]
      exact rwid_lst l []
    · rw [if_neg h, if_neg h, ← rwid_lst l (acc ++ [b]), wid_snoc2]
      congr 1
      split
      · omega
      · rfl
theorem rwid_is (l : List UInt8) : rwid 0 l = wid 0 (lastL [] l) := rwid_lst l []
theorem or_add (n : Nat) : ∀ f : Nat, f.testBit n = false → f ||| 2 ^ n = f + 2 ^ n := by
  induction n with
  | zero =>
    intro f h
    rw [Nat.testBit_zero] at h
    have h0 : f % 2 = 0 := by
      have : ¬ (f % 2 = 1) := by simpa using h
      omega
    have h1 : (f ||| 1) / 2 = f / 2 := by rw [Nat.or_div_two]; simp
    have h2 : (f ||| 1) % 2 = 1 := Nat.or_mod_two_eq_one.2 (Or.inr rfl)
    simp only [Nat.pow_zero]
    omega
  | succ n ih =>
    intro f h
    rw [Nat.testBit_succ] at h
    have h1 : (f ||| 2 ^ (n + 1)) / 2 = f / 2 + 2 ^ n := by
      rw [Nat.or_div_two, show 2 ^ (n + 1) / 2 = 2 ^ n by rw [Nat.pow_succ]; omega]
      exact ih _ h
    have h2 : (f ||| 2 ^ (n + 1)) % 2 = 1 ↔ f % 2 = 1 := by
      rw [Nat.or_mod_two_eq_one]
      have : ¬ (2 ^ (n + 1) % 2 = 1) := by rw [Nat.pow_succ]; omega
      simp [this]
    have h3 : 2 ^ (n + 1) = 2 * 2 ^ n := by rw [Nat.pow_succ, Nat.mul_comm]
    omega
theorem or_same (n f : Nat) (h : f.testBit n = true) : f ||| 2 ^ n = f := by
  apply Nat.eq_of_testBit_eq
  intro i
  rw [Nat.testBit_or, Nat.testBit_two_pow]
  by_cases hi : n = i
  · subst hi; rw [h]; rfl
  · simp [hi]
theorem msk (n : Nat) (hn : n < 16) (i : Nat) : (65535 - 2 ^ n).testBit i = (decide (i < 16) && !decide (n = i)) := by
  have h1 : 2 ^ n < 2 ^ 16 := Nat.pow_lt_pow_right (by omega) hn
  have h2 : 65535 - 2 ^ n = 2 ^ 16 - (2 ^ n + 1) := by omega
  rw [h2, Nat.testBit_two_pow_sub_succ h1, Nat.testBit_two_pow]
theorem and_same (n f : Nat) (hn : n < 16) (hf : f < 65536) (h : f.testBit n = false) : f &&& (65535 - 2 ^ n) = f := by
  apply Nat.eq_of_testBit_eq
  intro i
  rw [Nat.testBit_and, msk n hn]
  by_cases hi : i < 16
  · by_cases he : n = i
    · subst he; rw [h]; rfl
    · simp [hi, he]
  · have : f.testBit i = false := Nat.testBit_lt_two_pow (Nat.lt_of_lt_of_le hf (by rw [show 65536 = 2 ^ 16 by rfl]; exact Nat.pow_le_pow_right (by omega) (by omega)))
    rw [this]; rfl
theorem bit_sub (n f : Nat) (h : f.testBit n = true) : 2 ^ n ≤ f ∧ (f - 2 ^ n).testBit n = false := by
  rw [Nat.testBit_eq_decide_div_mod_eq, decide_eq_true_eq] at h
  have hp : 0 < 2 ^ n := Nat.two_pow_pos n
  generalize hq : 2 ^ n = p at *
  have hd := Nat.div_add_mod f p
  have hm := Nat.mod_lt f hp
  obtain ⟨q, hq2⟩ : ∃ q, f / p = q + 1 := by
    cases hc : f / p with
    | zero => rw [hc] at h; cases h
    | succ q => exact ⟨q, rfl⟩
  have e : f = p * q + p + f % p := by rw [hq2, Nat.mul_add, Nat.mul_one] at hd; exact hd.symm
  refine ⟨by rw [e]; exact Nat.le_trans (Nat.le_add_left p (p * q)) (Nat.le_add_right _ _), ?_⟩
  rw [Nat.testBit_eq_decide_div_mod_eq, hq, decide_eq_false_iff_not]
  have e2 : f - p = p * q + f % p := by generalize p * q = z at e; omega
  rw [e2, Nat.mul_add_div hp, Nat.div_eq_of_lt hm]
  rw [hq2] at h
  omega
theorem and_sub (n f : Nat) (hn : n < 16) (hf : f < 65536) (h : f.testBit n = true) : f &&& (65535 - 2 ^ n) = f - 2 ^ n := by
  obtain ⟨h1, h2⟩ := bit_sub n f h
  have h3 := and_same n (f - 2 ^ n) hn (Nat.lt_of_le_of_lt (Nat.sub_le _ _) hf) h2
  have h4 : f = (f - 2 ^ n) ||| 2 ^ n := by rw [or_add n _ h2]; exact (Nat.sub_add_cancel h1).symm
  apply Nat.eq_of_testBit_eq
  intro i
  rw [Nat.testBit_and, msk n hn]
  conv => lhs; rw [h4, Nat.testBit_or, Nat.testBit_two_pow]
  by_cases he : n = i
  · subst he; rw [h2]; simp
  · have h5 : ((f - 2 ^ n) &&& (65535 - 2 ^ n)).testBit i = (f - 2 ^ n).testBit i := by rw [h3]
    rw [Nat.testBit_and, msk n hn] at h5
    simp only [he, decide_false, Bool.not_false, Bool.and_true, Bool.or_false] at h5 ⊢
    exact h5
end Go.Proofs.Ytkaciochlemjiab
