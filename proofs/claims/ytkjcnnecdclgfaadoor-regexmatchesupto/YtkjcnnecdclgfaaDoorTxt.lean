import Derived.Test.YtkjcnnecdclgfaaDoorPure
namespace Go.Proofs.YtkjcnnecdclgfaaDoor
def hx : List UInt8 := [48, 49, 50, 51, 52, 53, 54, 55, 56, 57, 97, 98, 99, 100, 101, 102]
def sgn : List UInt8 := [92, 47, 124, 42, 43, 63, 40, 41, 91, 93, 46]
def wth : List UInt8 := [92, 47, 91, 93, 45, 94]
/-- A byte, as it is written where just those bytes have a backslash. -/
def spl (b : Nat) (mk : List UInt8) : List UInt8 :=
  if b = 10 then [92, 110] else if b = 9 then [92, 116] else if b = 13 then [92, 114]
  else if b < 32 ∨ 126 < b then [92, 120, hx.getD (b / 16) 0, hx.getD (b % 16) 0]
  else if mk.contains (UInt8.ofNat b) then [92, UInt8.ofNat b] else [UInt8.ofNat b]
theorem spl_len (b : Nat) (mk : List UInt8) : (spl b mk).length ≤ 4 := by
  unfold spl
  repeat' split
  all_goals simp

/-- The least place from b on that is within the set (or is not), at most 256. -/
def skf (m : Nat → Bool) (inn : Bool) : Nat → Nat → Nat
  | 0, b => b
  | n + 1, b => if b < 256 ∧ m b ≠ inn then skf m inn n (b + 1) else b
def sk (m : Nat → Bool) (inn : Bool) (b : Nat) : Nat := skf m inn (256 - b) b
structure Sk (m : Nat → Bool) (inn : Bool) (b e : Nat) : Prop where
  le : b ≤ e
  no : ∀ k, b ≤ k → k < e → m k ≠ inn
  top : e ≤ 256 ∨ e = b
  is : e < 256 → m e = inn
theorem skf_ok (m : Nat → Bool) (inn : Bool) : ∀ n b, n = 256 - b → Sk m inn b (skf m inn n b) := by
  intro n
  induction n with
  | zero =>
    intro b h
    exact ⟨Nat.le_refl _, fun k h1 h2 => by unfold skf at h2; omega, .inr rfl, fun h1 => by unfold skf at h1; omega⟩
  | succ n ih =>
    intro b h
    unfold skf
    split
    · rename_i h1
      have h2 := ih (b + 1) (by omega)
      refine ⟨by have := h2.le; omega, ?_, ?_, h2.is⟩
      · intro k k1 k2
        rcases Nat.eq_or_lt_of_le k1 with rfl | k3
        · exact h1.2
        · exact h2.no k k3 k2
      · rcases h2.top with t | t
        · exact .inl t
        · left; omega
    · rename_i h1
      refine ⟨Nat.le_refl _, fun k k1 k2 => by omega, .inr rfl, fun h2 => ?_⟩
      exact Classical.byContradiction fun h3 => h1 ⟨h2, h3⟩
theorem sk_ok (m : Nat → Bool) (inn : Bool) (b : Nat) : Sk m inn b (sk m inn b) := skf_ok m inn _ b rfl
theorem Sk.uniq {m : Nat → Bool} {inn : Bool} {b e e' : Nat} (h : Sk m inn b e) (h' : Sk m inn b e') (hb : b ≤ 256) : e = e' := by
  have t := h.top
  have t' := h'.top
  rcases Nat.lt_trichotomy e e' with k | k | k
  · exact absurd (h.is (by omega)) (h'.no e h.le k)
  · exact k
  · exact absurd (h'.is (by omega)) (h.no e' h'.le k)
theorem sk_le (m : Nat → Bool) (inn : Bool) (b : Nat) (hb : b ≤ 256) : sk m inn b ≤ 256 := by
  rcases (sk_ok m inn b).top with h | h <;> omega
theorem sk_ge (m : Nat → Bool) (inn : Bool) (b : Nat) : b ≤ sk m inn b := (sk_ok m inn b).le
theorem sk_more (m : Nat → Bool) (f : Nat) (hf : f < 256) (hm : m f = true) : f < sk m false f := by
  have h := sk_ok m false f
  have := h.le
  rcases Nat.eq_or_lt_of_le this with h1 | h1
  · rw [← h1] at h
    have := h.is hf
    rw [hm] at this
    cases this
  · exact h1
theorem sk_in (m : Nat → Bool) (b : Nat) (h : sk m true b < 256) : m (sk m true b) = true := (sk_ok m true b).is h

/-- The runs of a set, from b on. -/
def rn (m : Nat → Bool) : Nat → Nat → List UInt8
  | 0, _ => []
  | n + 1, b =>
    if sk m true b < 256 then
      spl (sk m true b) wth ++ (if sk m true b + 1 < sk m false (sk m true b) then 45 :: spl (sk m false (sk m true b) - 1) wth else []) ++ rn m n (sk m false (sk m true b))
    else []
theorem rn_more (m : Nat → Bool) : ∀ n b, 256 - b ≤ n → b ≤ 256 → rn m n b = rn m (n + 1) b := by
  intro n
  induction n with
  | zero =>
    intro b h hb
    have h1 := sk_ge m true b
    have : ¬ sk m true b < 256 := by omega
    simp [rn, this]
  | succ n ih =>
    intro b h hb
    rw [rn]
    conv => rhs; rw [rn]
    split
    · rename_i h1
      have h2 := sk_more m _ h1 (sk_in m b h1)
      have h3 := sk_ge m true b
      rw [ih _ (by omega) (sk_le m false _ (by omega))]
    · rfl
def RN (m : Nat → Bool) (b : Nat) : List UInt8 := rn m 256 b
theorem RN_end (m : Nat → Bool) (b : Nat) (h : ¬ sk m true b < 256) : RN m b = [] := by
  unfold RN rn
  rw [if_neg h]
theorem RN_step (m : Nat → Bool) (b : Nat) (h : sk m true b < 256) : RN m b = spl (sk m true b) wth ++ (if sk m true b + 1 < sk m false (sk m true b) then 45 :: spl (sk m false (sk m true b) - 1) wth else []) ++ RN m (sk m false (sk m true b)) := by
  have h2 := sk_more m _ h (sk_in m b h)
  have h3 := sk_ge m true b
  unfold RN
  rw [rn_more m 255 (sk m false (sk m true b)) (by omega) (sk_le m false _ (by omega)) |>.symm]
  conv => lhs; rw [rn]
  rw [if_pos h]
theorem rn_len (m : Nat → Bool) : ∀ n b, (rn m n b).length ≤ 9 * n := by
  intro n
  induction n with
  | zero => intro b; simp [rn]
  | succ n ih =>
    intro b
    unfold rn
    split
    · have h1 := spl_len (sk m true b) wth
      have h2 := spl_len (sk m false (sk m true b) - 1) wth
      have h3 := ih (sk m false (sk m true b))
      simp only [List.length_append]
      split
      · simp only [List.length_cons]; omega
      · simp only [List.length_nil]; omega
    · simp
theorem RN_len (m : Nat → Bool) (b : Nat) : (RN m b).length ≤ 2304 := rn_len m 256 b
/-- A class, as it is written. -/
def cst (m : Nat → Bool) : List UInt8 :=
  if cnt m 256 = 1 then spl (sk m true 0) sgn
  else if cnt m 256 = 255 ∧ m 10 = false then [46]
  else if 128 < cnt m 256 ∧ cnt m 256 < 256 then [91, 94] ++ RN (fun b => !m b) 0 ++ [93]
  else [91] ++ RN m 0 ++ [93]
theorem cst_len (m : Nat → Bool) : (cst m).length ≤ 2307 := by
  unfold cst
  have h1 := RN_len m 0
  have h2 := RN_len (fun b => !m b) 0
  have h3 := spl_len (sk m true 0) sgn
  repeat' split
  all_goals simp <;> omega
theorem dot_iff (m : Nat → Bool) : (cnt m 256 = 255 ∧ m 10 = false) ↔ ∀ i, i < 4 → wd m i = wd (fun b => !(b == 10)) i := by
  constructor
  · rintro ⟨h1, h2⟩ i hi
    refine wd_congr _ _ _ (fun j hj => ?_)
    by_cases e : 64 * i + j = 10
    · rw [e, h2]; rfl
    · have := cnt_all m 256 10 (by omega) h2 h1 (64 * i + j) (by omega) e
      rw [this]
      have : (64 * i + j == 10) = false := by simpa using e
      rw [this]; rfl
  · intro h
    have all : ∀ b, b < 256 → m b = !(b == 10) := by
      intro b hb
      have := wd_inj m _ (b / 64) (b % 64) (by omega) (h (b / 64) (by omega))
      have e : 64 * (b / 64) + b % 64 = b := by omega
      rw [e] at this
      exact this
    exact ⟨cnt_most m 10 256 (by omega) all, by rw [all 10 (by omega)]; rfl⟩

/-- A node. -/
structure Nd where
  op : Int
  m : Nat → Bool
  a : Int
  b : Int
/-- Is the set without a byte? -/
def bl (m : Nat → Bool) : Bool := wd m 0 == 0 && wd m 1 == 0 && wd m 2 == 0 && wd m 3 == 0
/-- How many nodes stand in a node, given those of the nodes ahead. -/
def ext (n : Nd) (z : List Nat) : Option Nat :=
  if n.op = 1 ∨ n.op = 2 then (if bl n.m = decide (n.op = 2) ∧ n.a = -1 ∧ n.b = -1 then some 1 else none)
  else if n.op = 5 ∨ n.op = 6 ∨ n.op = 7 then (if bl n.m = true ∧ 1 ≤ z.length ∧ n.a = (z.length : Int) - 1 ∧ n.b = -1 then some (z.getD (z.length - 1) 0 + 1) else none)
  else if n.op = 3 ∨ n.op = 4 then (if bl n.m = true ∧ 2 ≤ z.length ∧ n.b = (z.length : Int) - 1 ∧ z.getD (z.length - 1) 0 + 1 ≤ z.length ∧ n.a = (z.length : Int) - 1 - (z.getD (z.length - 1) 0 : Nat) then some (z.getD (z.length - 1 - z.getD (z.length - 1) 0) 0 + z.getD (z.length - 1) 0 + 1) else none)
  else none
def szs : List Nd → List Nat → Option (List Nat)
  | [], z => some z
  | n :: l, z => (ext n z).bind fun s => szs l (z ++ [s])
theorem szs_app (l l' : List Nd) (z : List Nat) : szs (l ++ l') z = (szs l z).bind fun z' => szs l' z' := by
  induction l generalizing z with
  | nil => rfl
  | cons n l ih =>
    simp only [List.cons_append, szs]
    cases ext n z with
    | none => rfl
    | some s => simp only [Option.bind_some]; exact ih _
/-- A list of sizes: each node has at least itself, and no more than there are. -/
def Zok (z : List Nat) : Prop := ∀ j, j < z.length → 1 ≤ z.getD j 0 ∧ z.getD j 0 ≤ j + 1
theorem ext_ok {n : Nd} {z : List Nat} {s : Nat} (h : ext n z = some s) (hz : Zok z) : 1 ≤ s ∧ s ≤ z.length + 1 := by
  unfold ext at h
  split at h
  · split at h
    · cases h; omega
    · cases h
  · split at h
    · split at h
      · rename_i h1
        cases h
        have := hz (z.length - 1) (by omega)
        omega
      · cases h
    · split at h
      · split at h
        · rename_i h1
          cases h
          have h2 := hz (z.length - 1) (by omega)
          have h3 := hz (z.length - 1 - z.getD (z.length - 1) 0) (by omega)
          omega
        · cases h
      · cases h
theorem Zok.snoc {z : List Nat} {s : Nat} (hz : Zok z) (h : 1 ≤ s ∧ s ≤ z.length + 1) : Zok (z ++ [s]) := by
  intro j hj
  simp only [List.length_append, List.length_cons, List.length_nil] at hj
  by_cases e : j < z.length
  · have := hz j e
    rw [List.getD_eq_getElem?_getD, List.getElem?_append_left e, ← List.getD_eq_getElem?_getD]
    exact this
  · obtain rfl : j = z.length := by omega
    simp
    exact h
theorem szs_ok {l : List Nd} : ∀ {z z' : List Nat}, szs l z = some z' → Zok z → Zok z' ∧ z'.length = z.length + l.length := by
  induction l with
  | nil => intro z z' h hz; cases h; exact ⟨hz, by simp⟩
  | cons n l ih =>
    intro z z' h hz
    simp only [szs, Option.bind_eq_some_iff] at h
    obtain ⟨s, h1, h2⟩ := h
    have h3 := ih h2 (hz.snoc (ext_ok h1 hz))
    refine ⟨h3.1, ?_⟩
    rw [h3.2]
    simp
    omega
theorem zok_nil : Zok [] := fun j hj => by simp at hj
/-- Is it a well shaped tree? -/
def Sh (l : List Nd) : Bool := match szs l [] with
  | none => false
  | some z => decide (l.length ≠ 0) && decide (l.length ≤ 128) && decide (z.getD (l.length - 1) 0 = l.length)

/-- An operand, in brackets if its level is below the one that is asked. -/
def bnd (t : List UInt8 × Nat) (k : Nat) : List UInt8 := if t.2 < k then [40] ++ t.1 ++ [41] else t.1
def ent (n : Nd) (t : List (List UInt8 × Nat)) : List UInt8 × Nat :=
  if n.op = 1 then (cst n.m, 4) else if n.op = 2 then ([40, 41], 4)
  else if n.op = 4 then ((t.getD n.a.toNat ([], 0)).1 ++ [124] ++ bnd (t.getD n.b.toNat ([], 0)) 2, 1)
  else if n.op = 3 then (bnd (t.getD n.a.toNat ([], 0)) 2 ++ bnd (t.getD n.b.toNat ([], 0)) 3, 2)
  else if n.op = 5 then (bnd (t.getD n.a.toNat ([], 0)) 3 ++ [42], 3)
  else if n.op = 6 then (bnd (t.getD n.a.toNat ([], 0)) 3 ++ [43], 3)
  else (bnd (t.getD n.a.toNat ([], 0)) 3 ++ [63], 3)
def tab : List Nd → List (List UInt8 × Nat) → List (List UInt8 × Nat)
  | [], t => t
  | n :: l, t => tab l (t ++ [ent n t])
theorem tab_app (l l' : List Nd) (t : List (List UInt8 × Nat)) : tab (l ++ l') t = tab l' (tab l t) := by
  induction l generalizing t with
  | nil => rfl
  | cons n l ih => exact ih _
theorem tab_pre (l : List Nd) : ∀ t, ∃ r, tab l t = t ++ r ∧ r.length = l.length := by
  induction l with
  | nil => intro t; exact ⟨[], by simp [tab], rfl⟩
  | cons n l ih =>
    intro t
    obtain ⟨r, h1, h2⟩ := ih (t ++ [ent n t])
    exact ⟨ent n t :: r, by simp [tab, h1], by simp [h2]⟩
theorem tab_len (l : List Nd) (t : List (List UInt8 × Nat)) : (tab l t).length = t.length + l.length := by
  obtain ⟨r, h1, h2⟩ := tab_pre l t
  rw [h1]; simp [h2]
end Go.Proofs.YtkjcnnecdclgfaaDoor
