import Derived.Below
namespace Go.Proofs.Ytnhmdbmcamfbiaa.Rp

inductive T where
  | leaf (s : ByteArray)
  | branch (l r : T)

def T.text : T → List UInt8
  | .leaf s => s.data.toList
  | .branch l r => l.text ++ r.text
def T.len : T → Nat
  | .leaf s => s.size
  | .branch l r => l.len + r.len
def T.ht : T → Nat
  | .leaf _ => 1
  | .branch l r => 1 + max l.ht r.ht
def T.Bal : T → Prop
  | .leaf _ => True
  | .branch l r => l.Bal ∧ r.Bal ∧ l.ht ≤ r.ht + 1 ∧ r.ht ≤ l.ht + 1 ∧ 0 < l.len ∧ 0 < r.len

theorem T.text_length (t : T) : t.text.length = t.len := by
  induction t with
  | leaf s => exact Array.length_toList
  | branch l r hl hr => simp [T.text, T.len, hl, hr]
theorem T.ht_pos (t : T) : 1 ≤ t.ht := by
  cases t <;> simp [T.ht]
theorem T.ht_le (t : T) (h : t.Bal) : t.ht ≤ t.len + 1 := by
  induction t with
  | leaf s => simp [T.ht]
  | branch l r hl hr =>
    obtain ⟨h1, h2, _, _, h5, h6⟩ := h
    have := hl h1
    have := hr h2
    simp only [T.ht, T.len]
    omega

/-- how many binary digits -/
def bits (n : Nat) : Nat := if n = 0 then 0 else bits (n / 2) + 1
termination_by n
decreasing_by omega

theorem bits_zero : bits 0 = 0 := by rw [bits, if_pos rfl]
theorem bits_pos {n : Nat} (h : 0 < n) : bits n = bits (n / 2) + 1 := by rw [bits, if_neg (by omega)]
theorem bits_mono : ∀ (n m : Nat), n ≤ m → bits n ≤ bits m := by
  intro n
  induction n using Nat.strongRecOn with
  | _ n ih =>
    intro m h
    by_cases h0 : n = 0
    · subst h0; rw [bits_zero]; omega
    · rw [bits_pos (by omega : 0 < n), bits_pos (by omega : 0 < m)]
      have := ih (n / 2) (by omega) (m / 2) (by omega)
      omega
theorem bits_double {n : Nat} (h : 0 < n) : bits (2 * n) = bits n + 1 := by
  rw [bits_pos (by omega)]
  congr 2
  omega
theorem T.low_aux (t : T) : t.Bal → 0 < t.len → t.ht ≤ 2 * bits t.len - 1 ∧ (2 ≤ t.ht → ∃ m, 2 * m ≤ t.len ∧ 0 < m ∧ t.ht ≤ 2 * bits m + 1 ) := by
  intro h hp
  have key : ∀ n (t : T), t.ht ≤ n → t.Bal → 0 < t.len → t.ht + 1 ≤ 2 * bits t.len := by
    intro n
    induction n with
    | zero => intro t ht; have := t.ht_pos; omega
    | succ n ih =>
      intro t ht hb hl
      cases t with
      | leaf s =>
        have : bits (T.leaf s).len = bits ((T.leaf s).len / 2) + 1 := bits_pos hl
        simp only [T.ht] at *
        omega
      | branch l r =>
        obtain ⟨h1, h2, h3, h4, h5, h6⟩ := hb
        simp only [T.ht, T.len] at *
        -- the lower one
        have key2 : ∀ (x : T), x.ht ≤ n → x.Bal → 0 < x.len → ∀ (y : T), y.ht ≤ n → y.Bal → 0 < y.len → x.ht ≤ y.ht → y.ht ≤ x.ht + 1 → 1 + y.ht + 1 ≤ 2 * bits (x.len + y.len) := by
          intro x hx xb xl y hy yb yl hxy hyx
          have ix := ih x hx xb xl
          have iy := ih y hy yb yl
          by_cases hm : x.len ≤ y.len
          · have := bits_mono (2 * x.len) (x.len + y.len) (by omega)
            rw [bits_double xl] at this
            omega
          · have := bits_mono (2 * y.len) (x.len + y.len) (by omega)
            rw [bits_double yl] at this
            omega
        by_cases hm : l.ht ≤ r.ht
        · have := key2 l (by omega) h1 h5 r (by omega) h2 h6 hm (by omega)
          omega
        · have := key2 r (by omega) h2 h6 l (by omega) h1 h5 (by omega) (by omega)
          rw [Nat.add_comm r.len l.len] at this
          omega
  have k := key _ t (Nat.le_refl _) h hp
  refine ⟨by omega, fun _ => ⟨t.len / 2, by omega, ?_, ?_⟩⟩
  · by_cases e : t.len = 1
    · have : bits t.len = 1 := by rw [e, bits_pos (by omega)]; simp [bits_zero]
      omega
    · omega
  · rw [bits_pos hp] at k
    omega
/-- Promise 1.4's bound -/
theorem T.low (t : T) (h : t.Bal) : t.ht ≤ 2 + 2 * bits t.len := by
  by_cases hp : 0 < t.len
  · have := (t.low_aux h hp).1; omega
  · cases t with
    | leaf s => simp [T.ht]; omega
    | branch l r => obtain ⟨_, _, _, _, h5, h6⟩ := h; simp [T.len] at hp; omega

/-- the height of build -/
def bh (n : Nat) : Nat := if n ≤ 1024 then 1 else 1 + max (bh (n / 2)) (bh (n - n / 2))
termination_by n
decreasing_by all_goals omega
theorem bh_small {n : Nat} (h : n ≤ 1024) : bh n = 1 := by rw [bh, if_pos h]
theorem bh_big {n : Nat} (h : 1024 < n) : bh n = 1 + max (bh (n / 2)) (bh (n - n / 2)) := by rw [bh, if_neg (by omega)]
theorem bh_pos (n : Nat) : 1 ≤ bh n := by
  by_cases h : n ≤ 1024
  · rw [bh_small h]; omega
  · rw [bh_big (by omega)]; omega
theorem bh_step : ∀ n, bh n ≤ bh (n + 1) ∧ bh (n + 1) ≤ bh n + 1 := by
  intro n
  induction n using Nat.strongRecOn with
  | _ n ih =>
    by_cases h : n + 1 ≤ 1024
    · rw [bh_small h, bh_small (by omega)]; omega
    · by_cases h2 : n = 1024
      · subst h2
        rw [bh_small (Nat.le_refl _), bh_big (by omega), bh_small (by omega), bh_small (by omega)]
        omega
      · rw [bh_big (n := n) (by omega), bh_big (n := n + 1) (by omega)]
        by_cases hk : n % 2 = 0
        · have i1 := ih (n / 2) (by omega)
          rw [show (n + 1) / 2 = n / 2 by omega, show n + 1 - n / 2 = n / 2 + 1 by omega, show n - n / 2 = n / 2 by omega]
          omega
        · have i1 := ih (n / 2) (by omega)
          rw [show (n + 1) / 2 = n / 2 + 1 by omega, show n + 1 - (n / 2 + 1) = n / 2 + 1 by omega, show n - n / 2 = n / 2 + 1 by omega]
          omega
theorem bh_halves (n : Nat) : bh (n / 2) ≤ bh (n - n / 2) + 1 ∧ bh (n - n / 2) ≤ bh (n / 2) + 1 := by
  by_cases hk : n % 2 = 0
  · rw [show n - n / 2 = n / 2 by omega]; omega
  · have := bh_step (n / 2)
    rw [show n - n / 2 = n / 2 + 1 by omega]; omega
end Go.Proofs.Ytnhmdbmcamfbiaa.Rp
