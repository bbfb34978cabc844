namespace Go.Proofs
namespace Ythfijmabagjdkaa
/-! Words, as data. -/
def nI (x : UInt8) : Int := (x.toNat : Int)
def isB (b : Int) : Bool := b == 32 || b == 9 || b == 13 || b == 10
def isD (b : Int) : Bool := decide (48 ≤ b) && decide (b ≤ 57)
def isL (b : Int) : Bool := decide (97 ≤ b) && decide (b ≤ 122) || decide (65 ≤ b) && decide (b ≤ 90) || b == 95
def isN (b : Int) : Bool := isL b || isD b
def isS (b : Int) : Bool := b == 123 || b == 125 || b == 40 || b == 41 || b == 124 || b == 42 || b == 43 || b == 63 || b == 58 || b == 59 || b == 44 || b == 61 || b == 64
/-- A digit of base 16, or -1. -/
def hxv (b : Int) : Int := if isD b then b - 48 else if 97 ≤ b ∧ b ≤ 102 then b - 87 else if 65 ≤ b ∧ b ≤ 70 then b - 55 else -1
/-- What a byte behind a backslash stands for, or -1. -/
def emv (b : Int) : Int := if b = 34 then 34 else if b = 92 then 92 else if b = 110 then 10 else if b = 116 then 9 else if b = 114 then 13 else -1
def ub (b : Int) : UInt8 := UInt8.ofNat b.toNat

/-- How many bytes of blanks and comments. -/
def gp : Bool → List UInt8 → Nat
  | _, [] => 0
  | false, x :: t => if isB (nI x) then 1 + gp false t else if nI x = 35 then 1 + gp true t else 0
  | true, x :: t => if nI x = 10 then 1 + gp false t else 1 + gp true t
/-- How many bytes of a kind. -/
def tw (p : Int → Bool) : List UInt8 → Nat
  | [] => 0
  | x :: t => if p (nI x) then 1 + tw p t else 0
/-- The number, at most 65536. -/
def nvf : Int → List UInt8 → Int
  | n, [] => n
  | n, x :: t => nvf (min (10 * n + (nI x - 48)) 65536) t
/-- A string's bytes from here: m bytes of an escape have been read. -/
def st : Nat → Int → List UInt8 → Nat → List UInt8 → Sum Nat (List UInt8 × Nat)
  | 0, _, [], _, _ => .inl 0
  | m + 1, _, [], o, _ => .inl (o - (m + 1))
  | 0, _, x :: t, o, a => if nI x = 34 then .inr (a, o + 1) else if nI x = 10 then .inl 0 else if nI x = 92 then st 1 0 t (o + 1) a else st 0 0 t (o + 1) (a ++ [x])
  | 1, _, x :: t, o, a => if nI x = 120 then st 2 0 t (o + 1) a else if emv (nI x) = -1 then .inl (o - 1) else st 0 0 t (o + 1) (a ++ [ub (emv (nI x))])
  | 2, _, x :: t, o, a => if hxv (nI x) = -1 then .inl (o - 2) else st 3 (hxv (nI x)) t (o + 1) a
  | m + 3, h, x :: t, o, a => if hxv (nI x) = -1 then .inl (o - (m + 3)) else st 0 0 t (o + 1) (a ++ [ub (16 * h + hxv (nI x))])
/-- A regex's bytes from here. -/
def rg : Bool → List UInt8 → Nat → Option Nat
  | _, [], _ => none
  | false, x :: t, o => if nI x = 47 then some (o + 1) else if nI x = 10 then none else if nI x = 92 then rg true t (o + 1) else rg false t (o + 1)
  | true, x :: t, o => if nI x = 10 then none else rg false t (o + 1)
/-- A word. -/
structure Wd where
  k : Int
  t : List UInt8
  n : Int
  a : Int
  deriving DecidableEq
/-- The word that begins here (its place is 0) and its length, or the error and its place. -/
def lx : List UInt8 → Sum (Nat × Nat) (Wd × Nat)
  | [] => .inl (81, 0)
  | x :: t =>
    if isL (nI x) then (if 24 < tw isN (x :: t) then .inl (83, 0) else .inr (⟨1, (x :: t).take (tw isN (x :: t)), 0, 0⟩, tw isN (x :: t)))
    else if isD (nI x) then (if 65535 < nvf 0 ((x :: t).take (tw isD (x :: t))) then .inl (84, 0) else .inr (⟨4, [], nvf 0 ((x :: t).take (tw isD (x :: t))), 0⟩, tw isD (x :: t)))
    else if nI x = 34 then (match st 0 0 t 1 [] with | .inl e => .inl (82, e) | .inr (a, n) => .inr (⟨2, a, 0, 0⟩, n))
    else if nI x = 47 then (match rg false t 1 with | none => .inl (82, 0) | some n => .inr (⟨3, t.take (n - 2), 0, 0⟩, n))
    else if isS (nI x) then .inr (⟨5, [x], 0, 0⟩, 1)
    else .inl (81, 0)
/-- The words, or the error and its place. -/
def ct : Nat → Nat → List UInt8 → Sum (Nat × Nat) (List Wd)
  | 0, _, _ => .inr []
  | f + 1, k, l => match l.drop (gp false l) with
    | [] => .inr []
    | x :: t => match lx (x :: t) with
      | .inl (e, o) => .inl (e, k + gp false l + o)
      | .inr (w, n) => match ct f (k + gp false l + n) ((x :: t).drop n) with
        | .inl e => .inl e
        | .inr ws => .inr ({ w with a := ((k + gp false l : Nat) : Int) } :: ws)
def cut (k : Nat) (l : List UInt8) : Sum (Nat × Nat) (List Wd) := ct l.length k l

theorem nI_inj {x y : UInt8} (h : nI x = nI y) : x = y := by
  apply UInt8.toNat_inj.1
  unfold nI at h
  omega
theorem nI_10 : nI 10 = 10 := rfl

theorem gp_le (c : Bool) (l : List UInt8) : gp c l ≤ l.length := by
  induction l generalizing c with
  | nil => simp [gp]
  | cons x t ih =>
    have h1 := ih true
    have h2 := ih false
    cases c <;> simp only [gp, List.length_cons] <;> repeat' split
    all_goals omega
theorem gp_b (x : UInt8) (t : List UInt8) (h : isB (nI x) = true) : gp false (x :: t) = gp false t + 1 := by rw [gp, if_pos h, Nat.add_comm]
theorem gp_c (x : UInt8) (t : List UInt8) (h : nI x = 35) : gp false (x :: t) = gp true t + 1 := by rw [gp, if_neg (by rw [h]; decide), if_pos h, Nat.add_comm]
theorem gp_n (x : UInt8) (t : List UInt8) (h : ¬ isB (nI x) = true) (h2 : ¬ nI x = 35) : gp false (x :: t) = 0 := by rw [gp, if_neg h, if_neg h2]
theorem gp_e (x : UInt8) (t : List UInt8) (h : nI x = 10) : gp true (x :: t) = gp false t + 1 := by rw [gp, if_pos h, Nat.add_comm]
theorem gp_o (x : UInt8) (t : List UInt8) (h : ¬ nI x = 10) : gp true (x :: t) = gp true t + 1 := by rw [gp, if_neg h, Nat.add_comm]
theorem gp_take (c : Bool) (l : List UInt8) : gp c (l.take (gp c l)) = gp c l := by
  induction l generalizing c with
  | nil => simp [gp]
  | cons x t ih =>
    cases c
    · by_cases h : isB (nI x) = true
      · rw [gp_b x t h, List.take_succ_cons, gp_b x _ h, ih false]
      · by_cases h2 : nI x = 35
        · rw [gp_c x t h2, List.take_succ_cons, gp_c x _ h2, ih true]
        · rw [gp_n x t h h2, List.take_zero, gp]
    · by_cases h : nI x = 10
      · rw [gp_e x t h, List.take_succ_cons, gp_e x _ h, ih false]
      · rw [gp_o x t h, List.take_succ_cons, gp_o x _ h, ih true]
theorem ite_up (a n b : Nat) : (if a = n then n + 1 + b else a) + 1 = if a + 1 = n + 1 then n + 1 + 1 + b else a + 1 := by
  split
  · rw [if_pos (by omega)]; omega
  · rw [if_neg (by omega)]
theorem gp_nl (c : Bool) (l b : List UInt8) : gp c (l ++ 10 :: b) = if gp c l = l.length then l.length + 1 + gp false b else gp c l := by
  induction l generalizing c with
  | nil => cases c <;> simp [gp, isB, nI_10]
  | cons x t ih =>
    rw [List.cons_append, List.length_cons]
    cases c
    · by_cases h : isB (nI x) = true
      · rw [gp_b x t h, gp_b x _ h, ih false, ite_up]
      · by_cases h2 : nI x = 35
        · rw [gp_c x t h2, gp_c x _ h2, ih true, ite_up]
        · rw [gp_n x t h h2, gp_n x _ h h2, if_neg (by omega)]
    · by_cases h : nI x = 10
      · rw [gp_e x t h, gp_e x _ h, ih false, ite_up]
      · rw [gp_o x t h, gp_o x _ h, ih true, ite_up]
theorem gp_at (c : Bool) (l : List UInt8) {x : UInt8} {t : List UInt8} (h : l.drop (gp c l) = x :: t) : isB (nI x) = false ∧ nI x ≠ 35 := by
  induction l generalizing c with
  | nil => simp at h
  | cons y u ih =>
    cases c
    · simp only [gp] at h
      split at h
      · rw [Nat.add_comm, List.drop_succ_cons] at h; exact ih false h
      · split at h
        · rw [Nat.add_comm, List.drop_succ_cons] at h; exact ih true h
        · rename_i h1 h2
          rw [List.drop_zero] at h
          injection h with h3 h4
          subst h3
          exact ⟨by simpa using h1, h2⟩
    · simp only [gp] at h
      split at h
      · rw [Nat.add_comm, List.drop_succ_cons] at h; exact ih false h
      · rw [Nat.add_comm, List.drop_succ_cons] at h; exact ih true h
theorem gp_stay {l : List UInt8} {x : UInt8} (t : List UInt8) (h1 : isB (nI x) = false) (h2 : nI x ≠ 35) (hl : l = x :: t) : gp false l = 0 := by
  subst hl
  simp [gp, h1, h2]

theorem tw_le (p : Int → Bool) (l : List UInt8) : tw p l ≤ l.length := by
  induction l with
  | nil => simp [tw]
  | cons x t ih => simp only [tw, List.length_cons]; split <;> omega
theorem tw_nl (p : Int → Bool) (hp : p 10 = false) (l b : List UInt8) : tw p (l ++ 10 :: b) = tw p l := by
  induction l with
  | nil => simp [tw, nI_10, hp]
  | cons x t ih => simp only [List.cons_append, tw, ih]
theorem tw_take (p : Int → Bool) (l : List UInt8) (n : Nat) (hn : tw p l ≤ n) : tw p (l.take n) = tw p l := by
  induction l generalizing n with
  | nil => simp [tw]
  | cons x t ih =>
    simp only [tw] at hn ⊢
    split at hn
    · rename_i h
      obtain ⟨m, rfl⟩ : ∃ m, n = m + 1 := ⟨n - 1, by omega⟩
      simp only [List.take_succ_cons, tw, h, if_true]
      rw [ih m (by omega)]
    · rename_i h
      cases n with
      | zero => simp [tw, h]
      | succ m => simp [tw, h]
theorem tw_app (p : Int → Bool) (l r : List UInt8) (hl : ∀ x ∈ l, p (nI x) = true) : tw p (l ++ r) = l.length + tw p r := by
  induction l with
  | nil => simp
  | cons x t ih =>
    simp only [List.cons_append, tw, hl x (by simp), if_true, List.length_cons]
    rw [ih fun y hy => hl y (by simp [hy])]
    omega
theorem tw_all (p : Int → Bool) (l : List UInt8) : ∀ x ∈ l.take (tw p l), p (nI x) = true := by
  induction l with
  | nil => simp
  | cons y t ih =>
    simp only [tw]
    split
    · rename_i h
      rw [Nat.add_comm, List.take_succ_cons]
      intro x hx
      rcases List.mem_cons.1 hx with rfl | hx
      · exact h
      · exact ih x hx
    · simp
theorem tw_pos (p : Int → Bool) (x : UInt8) (t : List UInt8) (h : p (nI x) = true) : 0 < tw p (x :: t) := by
  simp only [tw, h, if_true]; omega

theorem st_nl (b : List UInt8) : ∀ (l : List UInt8) (m : Nat) (h : Int) (o : Nat) (a : List UInt8), st m h (l ++ 10 :: b) o a = st m h l o a := by
  intro l
  induction l with
  | nil =>
    intro m h o a
    match m with
    | 0 => simp [st, nI_10]
    | 1 => simp [st, nI_10, emv]
    | 2 => simp [st, nI_10, hxv, isD]
    | m + 3 => simp [st, nI_10, hxv, isD]
  | cons x t ih =>
    intro m h o a
    match m with
    | 0 => simp only [List.cons_append, st, ih]
    | 1 => simp only [List.cons_append, st, ih]
    | 2 => simp only [List.cons_append, st, ih]
    | m + 3 => simp only [List.cons_append, st, ih]
theorem st_pos : ∀ (l : List UInt8) (m : Nat) (h : Int) (o : Nat) (a a' : List UInt8) (n : Nat), st m h l o a = .inr (a', n) → o < n ∧ n ≤ o + l.length := by
  intro l
  induction l with
  | nil => intro m h o a a' n e; match m with
    | 0 => simp [st] at e
    | m + 1 => simp [st] at e
  | cons x t ih =>
    intro m h o a a' n e
    simp only [List.length_cons]
    match m with
    | 0 =>
      simp only [st] at e
      split at e
      · injection e with e; injection e with e1 e2; omega
      · split at e
        · simp at e
        · split at e
          · have := ih _ _ _ _ _ _ e; omega
          · have := ih _ _ _ _ _ _ e; omega
    | 1 =>
      simp only [st] at e
      split at e
      · have := ih _ _ _ _ _ _ e; omega
      · split at e
        · simp at e
        · have := ih _ _ _ _ _ _ e; omega
    | 2 =>
      simp only [st] at e
      split at e
      · simp at e
      · have := ih _ _ _ _ _ _ e; omega
    | m + 3 =>
      simp only [st] at e
      split at e
      · simp at e
      · have := ih _ _ _ _ _ _ e; omega
theorem st_take : ∀ (l : List UInt8) (m : Nat) (h : Int) (o : Nat) (a a' : List UInt8) (n q : Nat), st m h l o a = .inr (a', n) → n ≤ o + q → st m h (l.take q) o a = .inr (a', n) := by
  intro l
  induction l with
  | nil => intro m h o a a' n q e _; simpa using e
  | cons x t ih =>
    intro m h o a a' n q e hq
    have hp := st_pos _ _ _ _ _ _ _ e
    obtain ⟨q', rfl⟩ : ∃ q', q = q' + 1 := ⟨q - 1, by omega⟩
    rw [List.take_succ_cons]
    match m with
    | 0 =>
      simp only [st] at e ⊢
      split at e
      · rename_i h1; simp only [h1, if_true]; exact e
      · split at e
        · simp at e
        · rename_i h1 h2
          simp only [h1, h2, if_false]
          split at e
          · rename_i h3; simp only [h3, if_true]; exact ih _ _ _ _ _ _ _ e (by omega)
          · rename_i h3; simp only [h3, if_false]; exact ih _ _ _ _ _ _ _ e (by omega)
    | 1 =>
      simp only [st] at e ⊢
      split at e
      · rename_i h1; simp only [h1, if_true]; exact ih _ _ _ _ _ _ _ e (by omega)
      · split at e
        · simp at e
        · rename_i h1 h2
          simp only [h1, h2, if_false]
          exact ih _ _ _ _ _ _ _ e (by omega)
    | 2 =>
      simp only [st] at e ⊢
      split at e
      · simp at e
      · rename_i h1; simp only [h1, if_false]; exact ih _ _ _ _ _ _ _ e (by omega)
    | m + 3 =>
      simp only [st] at e ⊢
      split at e
      · simp at e
      · rename_i h1; simp only [h1, if_false]; exact ih _ _ _ _ _ _ _ e (by omega)

theorem rg_nl (b : List UInt8) : ∀ (l : List UInt8) (c : Bool) (o : Nat), rg c (l ++ 10 :: b) o = rg c l o := by
  intro l
  induction l with
  | nil => intro c o; cases c <;> simp [rg, nI_10]
  | cons x t ih => intro c o; cases c <;> simp only [List.cons_append, rg, ih]
theorem rg_pos : ∀ (l : List UInt8) (c : Bool) (o n : Nat), rg c l o = some n → o < n ∧ n ≤ o + l.length := by
  intro l
  induction l with
  | nil => intro c o n e; cases c <;> simp [rg] at e
  | cons x t ih =>
    intro c o n e
    simp only [List.length_cons]
    cases c
    · simp only [rg] at e
      split at e
      · injection e with e; omega
      · split at e
        · simp at e
        · split at e
          · have := ih _ _ _ e; omega
          · have := ih _ _ _ e; omega
    · simp only [rg] at e
      split at e
      · simp at e
      · have := ih _ _ _ e; omega
theorem rg_take : ∀ (l : List UInt8) (c : Bool) (o n q : Nat), rg c l o = some n → n ≤ o + q → rg c (l.take q) o = some n := by
  intro l
  induction l with
  | nil => intro c o n q e _; simpa using e
  | cons x t ih =>
    intro c o n q e hq
    have hp := rg_pos _ _ _ _ e
    obtain ⟨q', rfl⟩ : ∃ q', q = q' + 1 := ⟨q - 1, by omega⟩
    rw [List.take_succ_cons]
    cases c
    · simp only [rg] at e ⊢
      split at e
      · rename_i h1; simp only [h1, if_true]; exact e
      · split at e
        · simp at e
        · rename_i h1 h2
          simp only [h1, h2, if_false]
          split at e
          · rename_i h3; simp only [h3, if_true]; exact ih _ _ _ _ e (by omega)
          · rename_i h3; simp only [h3, if_false]; exact ih _ _ _ _ e (by omega)
    · simp only [rg] at e ⊢
      split at e
      · simp at e
      · rename_i h1; simp only [h1, if_false]; exact ih _ _ _ _ e (by omega)
end Ythfijmabagjdkaa
end Go.Proofs
