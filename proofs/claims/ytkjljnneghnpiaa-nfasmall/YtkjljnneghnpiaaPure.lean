import Derived.Test.YtkjljnneghnpiaaPop
namespace Go.Proofs
namespace Ytkjljnneghnpiaa

/-- The number whose bits below n are f's. -/
def sb (f : Nat → Bool) : Nat → Nat
  | 0 => 0
  | n + 1 => 2 ^ n * (f n).toNat + sb f n
theorem sb_lt (f : Nat → Bool) (n : Nat) : sb f n < 2 ^ n := by
  induction n with
  | zero => simp [sb]
  | succ n ih =>
    unfold sb
    rw [Nat.pow_succ]
    cases f n <;> simp <;> omega
theorem sb_bit (f : Nat → Bool) (n j : Nat) : (sb f n).testBit j = (decide (j < n) && f j) := by
  induction n with
  | zero => simp [sb]
  | succ n ih =>
    unfold sb
    rw [Nat.testBit_two_pow_mul_add _ (sb_lt f n)]
    by_cases h : j < n
    · rw [if_pos h, ih]
      simp [h, Nat.lt_succ_of_lt h]
    · rw [if_neg h]
      by_cases h' : j = n
      · subst h'
        cases f j <;> simp
      · have : ¬ j < n + 1 := by omega
        simp only [this, decide_false, Bool.false_and]
        obtain ⟨k, hk⟩ : ∃ k, j - n = k + 1 := ⟨j - n - 1, by omega⟩
        rw [hk, Nat.testBit_succ]
        cases f n <;> simp
/-- Word i of a set of bytes. -/
def wd (m : Nat → Bool) (i : Nat) : Nat := sb (fun j => m (64 * i + j)) 64
theorem wd_lt (m : Nat → Bool) (i : Nat) : wd m i < 18446744073709551616 := sb_lt _ 64
theorem wd_bit (m : Nat → Bool) (i j : Nat) : (wd m i).testBit j = (decide (j < 64) && m (64 * i + j)) := sb_bit _ _ _
theorem wd_ext (x : Nat) (m : Nat → Bool) (i : Nat) (hx : x < 18446744073709551616) (h : ∀ j, j < 64 → x.testBit j = m (64 * i + j)) : x = wd m i := by
  apply Nat.eq_of_testBit_eq
  intro j
  rw [wd_bit]
  by_cases hj : j < 64
  · simp [hj, h j hj]
  · simp only [hj, decide_false, Bool.false_and]
    exact Nat.testBit_lt_two_pow (Nat.lt_of_lt_of_le hx (Nat.pow_le_pow_right (n := 2) (i := 64) (by decide) (by omega)))
theorem wd_congr (m m' : Nat → Bool) (i : Nat) (h : ∀ j, j < 64 → m (64 * i + j) = m' (64 * i + j)) : wd m i = wd m' i :=
  wd_ext _ _ _ (wd_lt m i) (fun j hj => by rw [wd_bit]; simp [hj, h j hj])
theorem wd_inj (m m' : Nat → Bool) (i j : Nat) (hj : j < 64) (h : wd m i = wd m' i) : m (64 * i + j) = m' (64 * i + j) := by
  have := congrArg (fun x => x.testBit j) h
  simp only [wd_bit] at this
  simpa [hj] using this
/-- Every word below 2^64 is that of its bits. -/
theorem wd_of (w : Nat → Nat) (i : Nat) (h : w i < 18446744073709551616) : w i = wd (fun b => (w (b / 64)).testBit (b % 64)) i := by
  refine wd_ext _ _ _ h (fun j hj => ?_)
  have h1 : (64 * i + j) / 64 = i := by omega
  have h2 : (64 * i + j) % 64 = j := by omega
  simp only [h1, h2]
theorem wd_or (m : Nat → Bool) (b : Nat) : wd m (b / 64) ||| 2 ^ (b % 64) = wd (fun k => m k || k == b) (b / 64) := by
  refine wd_ext _ _ _ (Nat.or_lt_two_pow (n := 64) (wd_lt _ _) (Nat.pow_lt_pow_right (by decide) (by omega))) (fun j hj => ?_)
  rw [Nat.testBit_or, wd_bit, Nat.testBit_two_pow]
  simp only [hj, decide_true, Bool.true_and]
  congr 1
  have : (b % 64 = j) ↔ (64 * (b / 64) + j = b) := by omega
  by_cases h : b % 64 = j
  · have h' := this.1 h
    simp [h, h']
  · have h' : ¬ (64 * (b / 64) + j = b) := fun e => h (this.2 e)
    simp [h, h']
theorem wd_or_other (m : Nat → Bool) (b i : Nat) (h : i ≠ b / 64) : wd m i = wd (fun k => m k || k == b) i := by
  refine wd_congr _ _ _ (fun j hj => ?_)
  have : ¬ (64 * i + j = b) := by omega
  simp [this]
theorem wd_not (m : Nat → Bool) (i : Nat) : 18446744073709551615 ^^^ wd m i = wd (fun k => !m k) i := by
  refine wd_ext _ _ _ (Nat.xor_lt_two_pow (n := 64) (by decide) (wd_lt m i)) (fun j hj => ?_)
  rw [Nat.testBit_xor, wd_bit, show (18446744073709551615 : Nat) = 2 ^ 64 - 1 by decide, Nat.testBit_two_pow_sub_one]
  simp [hj]
theorem wd_join (m m' : Nat → Bool) (i : Nat) : wd m i ||| wd m' i = wd (fun k => m k || m' k) i := by
  refine wd_ext _ _ _ (Nat.or_lt_two_pow (n := 64) (wd_lt _ _) (wd_lt _ _)) (fun j hj => ?_)
  rw [Nat.testBit_or, wd_bit, wd_bit]
  simp [hj]
theorem wd_and1 (m : Nat → Bool) (b : Nat) : (wd m (b / 64) / 2 ^ (b % 64)) &&& 1 = (m b).toNat := by
  rw [Nat.and_one_is_mod]
  have := wd_bit m (b / 64) (b % 64)
  have e : 64 * (b / 64) + b % 64 = b := by omega
  rw [e] at this
  have hj : b % 64 < 64 := by omega
  simp only [hj, decide_true, Bool.true_and] at this
  rw [Nat.testBit_eq_decide_div_mod_eq] at this
  have := Nat.mod_two_eq_zero_or_one (wd m (b / 64) / 2 ^ (b % 64))
  cases hm : m b <;> simp_all
theorem wd_none (i : Nat) : wd (fun _ => false) i = 0 := by
  symm
  exact wd_ext _ _ _ (by decide) (fun j _ => by simp)
/-- How many of the first n are in the set. -/
def cnt (m : Nat → Bool) : Nat → Nat
  | 0 => 0
  | n + 1 => cnt m n + (m n).toNat
theorem cnt_le (m : Nat → Bool) (n : Nat) : cnt m n ≤ n := by
  induction n with
  | zero => exact Nat.le_refl _
  | succ n ih => unfold cnt; have := Bool.toNat_le (m n); omega
theorem cnt_add (m : Nat → Bool) (a n : Nat) : cnt m (a + n) = cnt m a + cnt (fun j => m (a + j)) n := by
  induction n with
  | zero => simp [cnt]
  | succ n ih =>
    show cnt m (a + n) + (m (a + n)).toNat = cnt m a + (cnt (fun j => m (a + j)) n + (m (a + n)).toNat)
    omega
theorem cnt_congr (m m' : Nat → Bool) (n : Nat) (h : ∀ b, b < n → m b = m' b) : cnt m n = cnt m' n := by
  induction n with
  | zero => rfl
  | succ n ih => unfold cnt; rw [ih (fun b hb => h b (by omega)), h n (by omega)]
theorem cnt_first (m : Nat → Bool) (n : Nat) : cnt m (n + 1) = (m 0).toNat + cnt (fun j => m (j + 1)) n := by
  have := cnt_add m 1 n
  rw [Nat.add_comm 1 n] at this
  rw [this]
  have e : (fun j => m (1 + j)) = fun j => m (j + 1) := by funext j; rw [Nat.add_comm]
  rw [e]
  simp [cnt]
theorem pc_cnt (n x : Nat) : pc n x = cnt (fun j => x.testBit j) n := by
  induction n generalizing x with
  | zero => rfl
  | succ n ih =>
    rw [cnt_first]
    unfold pc
    rw [ih]
    have e : (fun j => x.testBit (j + 1)) = fun j => (x / 2).testBit j := by funext j; rw [Nat.testBit_succ]
    rw [e]
    have : x % 2 = (x.testBit 0).toNat := by
      rw [Nat.testBit_zero]
      rcases Nat.mod_two_eq_zero_or_one x with h | h <;> simp [h]
    omega
theorem pc_wd (m : Nat → Bool) (i : Nat) : pc 64 (wd m i) = cnt (fun j => m (64 * i + j)) 64 := by
  rw [pc_cnt]
  exact cnt_congr _ _ _ (fun j hj => by rw [wd_bit]; simp [hj])
theorem cnt_words (m : Nat → Bool) : pc 64 (wd m 0) + pc 64 (wd m 1) + pc 64 (wd m 2) + pc 64 (wd m 3) = cnt m 256 := by
  have e0 : (fun j => m (64 * 0 + j)) = m := by funext j; simp
  rw [pc_wd, pc_wd, pc_wd, pc_wd, e0]
  have h1 := cnt_add m 64 64
  have h2 := cnt_add m 128 64
  have h3 := cnt_add m 192 64
  simp only [Nat.reduceAdd, Nat.reduceMul, Nat.zero_add] at *
  omega
theorem cnt_two (m : Nat → Bool) (n a : Nat) (ha : a < n) (hm : m a = false) : cnt m n ≤ n - 1 := by
  induction n with
  | zero => omega
  | succ n ih =>
    unfold cnt
    by_cases h : a = n
    · subst h
      rw [hm]
      have := cnt_le m a
      simp; omega
    · have := ih (by omega)
      have := Bool.toNat_le (m n)
      omega
theorem cnt_all (m : Nat → Bool) (n a : Nat) (ha : a < n) (hm : m a = false) (h : cnt m n = n - 1) (b : Nat) (hb : b < n) (hab : b ≠ a) : m b = true := by
  induction n with
  | zero => omega
  | succ n ih =>
    unfold cnt at h
    by_cases h1 : a = n
    · subst h1
      rw [hm] at h
      cases hmb : m b with
      | true => rfl
      | false =>
        have := cnt_two m a b (by omega) hmb
        simp at h; omega
    · have h2 := cnt_two m n a (by omega) hm
      have h3 := Bool.toNat_le (m n)
      by_cases h4 : b = n
      · subst h4
        cases hmb : m b with
        | true => rfl
        | false => rw [hmb] at h; simp at h; omega
      · refine ih (by omega) ?_ (by omega)
        omega
theorem cnt_most (m : Nat → Bool) (a : Nat) (n : Nat) (ha : a < n) (h : ∀ b, b < n → m b = !(b == a)) : cnt m n = n - 1 := by
  induction n with
  | zero => omega
  | succ n ih =>
    unfold cnt
    by_cases h1 : a = n
    · subst h1
      rw [h a (by omega)]
      have : cnt m a = a := by
        have : ∀ k, k ≤ a → cnt m k = k := by
          intro k
          induction k with
          | zero => intro _; rfl
          | succ k ihk => intro hk; unfold cnt; rw [ihk (by omega), h k (by omega)]; have : ¬ k = a := by omega
                          simp [this]
        exact this a (Nat.le_refl _)
      rw [this]; simp
    · rw [ih (by omega) (fun b hb => h b (by omega)), h n (by omega)]
      have : ¬ n = a := by omega
      have e : (!(n == a)).toNat = 1 := by simp [this]
      rw [e]; omega
end Ytkjljnneghnpiaa
end Go.Proofs
