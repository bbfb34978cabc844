import Derived.Test.YtgdmoeocgflhgaaDoorTbf
namespace Go.Proofs.YtgdmoeocgflhgaaDoor
open Go.RowKit Go.Maps

/-- A count: the groups read, what they come to, the bytes left. -/
def cr : Nat → Nat → List UInt8 → Option (Nat × Nat)
  | _, _, [] => none
  | k, n, b :: l => if 9 ≤ k then none else if 128 ≤ b.toNat then cr (k + 1) (n + b.toNat % 128 * 2 ^ (7 * k)) l else if b.toNat = 0 ∧ 0 < k then none else some (n + b.toNat * 2 ^ (7 * k), k + 1)
theorem cr_more {k n : Nat} {b : UInt8} {l : List UInt8} (hk : k < 9) (hb : 128 ≤ b.toNat) : cr k n (b :: l) = cr (k + 1) (n + b.toNat % 128 * 2 ^ (7 * k)) l := by
  rw [cr, if_neg (by omega), if_pos hb]
theorem cr_zero {k n : Nat} {b : UInt8} {l : List UInt8} (hb : b.toNat = 0) (h0 : 0 < k) : cr k n (b :: l) = none := by
  rw [cr]
  by_cases hk : 9 ≤ k
  · rw [if_pos hk]
  · rw [if_neg hk, if_neg (by omega), if_pos ⟨hb, h0⟩]
theorem cr_last {k n : Nat} {b : UInt8} {l : List UInt8} (hk : k < 9) (hb : b.toNat < 128) (h : ¬ (b.toNat = 0 ∧ 0 < k)) : cr k n (b :: l) = some (n + b.toNat * 2 ^ (7 * k), k + 1) := by
  rw [cr, if_neg (by omega), if_neg (by omega), if_neg h]
theorem cr_nine {k n : Nat} {l : List UInt8} (hk : 9 ≤ k) : cr k n l = none := by
  cases l with
  | nil => rfl
  | cons b l => rw [cr, if_pos hk]
/-- What is counted is below 2 ^ 63, and has no more groups than bytes. -/
theorem cr_bound : ∀ (l : List UInt8) (k n v z : Nat), cr k n l = some (v, z) → n < 2 ^ (7 * k) → v < 2 ^ 63 ∧ z ≤ k + l.length ∧ k < z
  | [], k, n, v, z, h, _ => by cases h
  | b :: l, k, n, v, z, h, hn => by
    by_cases hk : 9 ≤ k
    · rw [cr_nine hk] at h; cases h
    · have hp : (2 : Nat) ^ (7 * (k + 1)) = 128 * 2 ^ (7 * k) := by rw [show 7 * (k + 1) = 7 * k + 7 by omega, Nat.pow_add]; omega
      by_cases hb : 128 ≤ b.toNat
      · rw [cr_more (by omega) hb] at h
        have hlt : n + b.toNat % 128 * 2 ^ (7 * k) < 2 ^ (7 * (k + 1)) := by
          rw [hp]
          have h1 : b.toNat % 128 * 2 ^ (7 * k) ≤ 127 * 2 ^ (7 * k) := Nat.mul_le_mul_right _ (by omega)
          omega
        have := cr_bound l (k + 1) _ v z h hlt
        simp only [List.length_cons]
        omega
      · by_cases h0 : b.toNat = 0 ∧ 0 < k
        · rw [cr_zero h0.1 h0.2] at h; cases h
        · rw [cr_last (by omega) (by omega) h0] at h
          obtain ⟨rfl, rfl⟩ := Prod.mk.inj (Option.some.inj h)
          have h1 : b.toNat * 2 ^ (7 * k) ≤ 127 * 2 ^ (7 * k) := Nat.mul_le_mul_right _ (by omega)
          have h2 : (2 : Nat) ^ (7 * (k + 1)) ≤ 2 ^ 63 := Nat.pow_le_pow_right (by decide) (by omega)
          simp only [List.length_cons]
          omega
/-- A count from least to most, at a place. -/
def num (s : ByteArray) (lo hi p : Nat) : Except Nat (Nat × Nat) := match cr 0 0 (s.data.toList.drop p) with
  | none => .error p
  | some (v, z) => if lo ≤ v ∧ v ≤ hi then .ok (v, p + z) else .error p
theorem num_no {s : ByteArray} {lo hi p : Nat} (h : cr 0 0 (s.data.toList.drop p) = none) : num s lo hi p = .error p := by rw [num, h]
theorem num_yes {s : ByteArray} {lo hi p v z : Nat} (h : cr 0 0 (s.data.toList.drop p) = some (v, z)) (h1 : lo ≤ v) (h2 : v ≤ hi) : num s lo hi p = .ok (v, p + z) := by rw [num, h]; exact if_pos ⟨h1, h2⟩
theorem num_out {s : ByteArray} {lo hi p v z : Nat} (h : cr 0 0 (s.data.toList.drop p) = some (v, z)) (h1 : ¬ (lo ≤ v ∧ v ≤ hi)) : num s lo hi p = .error p := by rw [num, h]; exact if_neg h1
/-- The action that has a count. -/
def aco (k : Nat) : Ak := if k = 0 then (0, 0) else if k = 1 then (3, 0) else if k % 2 = 0 then (1, ((k - 2) / 2 : Nat)) else (2, ((k - 3) / 2 : Nat))
def actR (n : Nat) (s : ByteArray) (p : Nat) : Except Nat (Ak × Nat) := match num s 0 9223372036854775807 p with
  | .error b => .error b
  | .ok (k, q) => if fts n (aco k) = true then .ok (aco k, q) else .error p
def entR (n : Nat) (s : ByteArray) (p : Nat) : Except Nat (Int × Nat) := match num s 0 n p with
  | .error b => .error b
  | .ok (k, q) => .ok ((k : Int) - 1, q)
/-- So many, one behind the other. -/
def rds {α : Type} (f : Nat → Except Nat (α × Nat)) : Nat → Nat → Except Nat (List α × Nat)
  | 0, p => .ok ([], p)
  | k + 1, p => match f p with
    | .error b => .error b
    | .ok (x, q) => match rds f k q with
      | .error b => .error b
      | .ok (l, r) => .ok (x :: l, r)
/-- Reading on behind what has been read. -/
theorem rds_snoc {α : Type} {f : Nat → Except Nat (α × Nat)} : ∀ (k p : Nat) (l : List α) (q : Nat) (x : α) (r : Nat), rds f k p = .ok (l, q) → f q = .ok (x, r) → rds f (k + 1) p = .ok (l ++ [x], r)
  | 0, p, l, q, x, r, h, hf => by
    cases h
    simp only [rds, hf]
    rfl
  | k + 1, p, l, q, x, r, h, hf => by
    rw [rds] at h ⊢
    cases h1 : f p with
    | error b => rw [h1] at h; cases h
    | ok y =>
      obtain ⟨y, t⟩ := y
      rw [h1] at h
      dsimp only at h ⊢
      cases h2 : rds f k t with
      | error b => rw [h2] at h; cases h
      | ok m =>
        obtain ⟨m, u⟩ := m
        rw [h2] at h
        cases h
        rw [rds_snoc k t m _ x r h2 hf]
        rfl
theorem rds_bad {α : Type} {f : Nat → Except Nat (α × Nat)} : ∀ (k j p : Nat) (l : List α) (q b : Nat), rds f k p = .ok (l, q) → f q = .error b → k < j → rds f j p = .error b
  | 0, j + 1, p, l, q, b, h, hf, _ => by
    cases h
    simp only [rds, hf]
  | k + 1, j + 1, p, l, q, b, h, hf, hj => by
    rw [rds] at h ⊢
    cases h1 : f p with
    | error b => rw [h1] at h; cases h
    | ok y =>
      obtain ⟨y, t⟩ := y
      rw [h1] at h
      dsimp only at h ⊢
      cases h2 : rds f k t with
      | error b => rw [h2] at h; cases h
      | ok m =>
        obtain ⟨m, u⟩ := m
        rw [h2] at h
        cases h
        rw [rds_bad k j t m _ b h2 hf (by omega)]
theorem rds_len {α : Type} {f : Nat → Except Nat (α × Nat)} : ∀ (k p : Nat) (l : List α) (q : Nat), rds f k p = .ok (l, q) → l.length = k
  | 0, p, l, q, h => by cases h; rfl
  | k + 1, p, l, q, h => by
    rw [rds] at h
    cases h1 : f p with
    | error b => rw [h1] at h; cases h
    | ok y =>
      obtain ⟨y, t⟩ := y
      rw [h1] at h
      dsimp only at h
      cases h2 : rds f k t with
      | error b => rw [h2] at h; cases h
      | ok m =>
        obtain ⟨m, u⟩ := m
        rw [h2] at h
        cases h
        rw [List.length_cons, rds_len k t m _ h2]
/-- The head. -/
def hed (s : ByteArray) : Option Nat := if s.data.toList.head? = some 84 then (if (s.data.toList.drop 1).head? = some 1 then none else some 1) else some 0
/-- The three sizes. -/
def szs (s : ByteArray) : Except Nat (Nat × Nat × Nat × Nat) := match hed s with
  | some b => .error b
  | none => match num s 1 2048 2 with
    | .error b => .error b
    | .ok (n, p) => match num s 1 64 p with
      | .error b => .error b
      | .ok (tk, q) => match num s 0 128 q with
        | .error b => .error b
        | .ok (sy, r) => .ok (n, tk, sy, r)
/-- The table of an image, or the place of what cannot be. -/
def dec (s : ByteArray) : Except Nat (List (List Ak) × List (List Int)) := match szs s with
  | .error b => .error b
  | .ok (n, tk, sy, p) => match rds (rds (actR n s) tk) n p with
    | .error b => .error b
    | .ok (T, q) => match rds (rds (entR n s) sy) n q with
      | .error b => .error b
      | .ok (U, r) => if r < s.size then .error r else .ok (T, U)
end Go.Proofs.YtgdmoeocgflhgaaDoor
