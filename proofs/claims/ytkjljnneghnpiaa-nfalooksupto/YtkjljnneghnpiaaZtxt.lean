import Derived.Test.YtkjljnneghnpiaaZcls
namespace Go.Proofs.Ytkjljnneghnpiaa.Rg
open Go.RowKit
def hx : List UInt8 := [48, 49, 50, 51, 52, 53, 54, 55, 56, 57, 97, 98, 99, 100, 101, 102]
def sgn : List UInt8 := [92, 47, 124, 42, 43, 63, 40, 41, 91, 93, 46]
def wth : List UInt8 := [92, 47, 91, 93, 45, 94]
/-- A node. -/
structure Nd where
  op : Int
  m : Nat → Bool
  a : Int
  b : Int
/-- Is the set without a byte? -/
def bl (m : Nat → Bool) : Bool := wd m 0 == 0 && wd m 1 == 0 && wd m 2 == 0 && wd m 3 == 0
/-- How many nodes stand in a node, given those of the nodes ahead. -/
def ext (n : Nd) (z : List Nat) : Option Nat :=
  if n.op = 1 ∨ n.op = 2 then (if bl n.m = decide (n.op = 2) ∧ n.a = -1 ∧ n.b = -1 then some 1 else none)
  else if n.op = 5 ∨ n.op = 6 ∨ n.op = 7 then (if bl n.m = true ∧ 1 ≤ z.length ∧ n.a = (z.length : Int) - 1 ∧ n.b = -1 then some (z.getD (z.length - 1) 0 + 1) else none)
  else if n.op = 3 ∨ n.op = 4 then (if bl n.m = true ∧ 2 ≤ z.length ∧ n.b = (z.length : Int) - 1 ∧ z.getD (z.length - 1) 0 + 1 ≤ z.length ∧ n.a = (z.length : Int) - 1 - (z.getD (z.length - 1) 0 : Nat) then some (z.getD (z.length - 1 - z.getD (z.length - 1) 0) 0 + z.getD (z.length - 1) 0 + 1) else none)
  else none
def szs : List Nd → List Nat → Option (List Nat)
  | [], z => some z
  | n :: l, z => (ext n z).bind fun s => szs l (z ++ [s])
theorem szs_app (l l' : List Nd) (z : List Nat) : szs (l ++ l') z = (szs l z).bind fun z' => szs l' z' := by
  induction l generalizing z with
  | nil => rfl
  | cons n l ih =>
    simp only [List.cons_append, szs]
    cases ext n z with
    | none => rfl
    | some s => simp only [Option.bind_some]; exact ih _
/-- A list of sizes: each node has at least itself, and no more than there are. -/
def Zok (z : List Nat) : Prop := ∀ j, j < z.length → 1 ≤ z.getD j 0 ∧ z.getD j 0 ≤ j + 1
theorem ext_ok {n : Nd} {z : List Nat} {s : Nat} (h : ext n z = some s) (hz : Zok z) : 1 ≤ s ∧ s ≤ z.length + 1 := by
  unfold ext at h
  split at h
  · split at h
    · cases h; omega
    · cases h
  · split at h
    · split at h
      · rename_i h1
        cases h
        have := hz (z.length - 1) (by omega)
        omega
      · cases h
    · split at h
      · split at h
        · rename_i h1
          cases h
          have h2 := hz (z.length - 1) (by omega)
          have h3 := hz (z.length - 1 - z.getD (z.length - 1) 0) (by omega)
          omega
        · cases h
      · cases h
theorem Zok.snoc {z : List Nat} {s : Nat} (hz : Zok z) (h : 1 ≤ s ∧ s ≤ z.length + 1) : Zok (z ++ [s]) := by
  intro j hj
  simp only [List.length_append, List.length_cons, List.length_nil] at hj
  by_cases e : j < z.length
  · have := hz j e
    rw [List.getD_eq_getElem?_getD, List.getElem?_append_left e, ← List.getD_eq_getElem?_getD]
    exact this
  · obtain rfl : j = z.length := by omega
    simp
    exact h
theorem szs_ok {l : List Nd} : ∀ {z z' : List Nat}, szs l z = some z' → Zok z → Zok z' ∧ z'.length = z.length + l.length := by
  induction l with
  | nil => intro z z' h hz; cases h; exact ⟨hz, by simp⟩
  | cons n l ih =>
    intro z z' h hz
    simp only [szs, Option.bind_eq_some_iff] at h
    obtain ⟨s, h1, h2⟩ := h
    have h3 := ih h2 (hz.snoc (ext_ok h1 hz))
    refine ⟨h3.1, ?_⟩
    rw [h3.2]
    simp
    omega
theorem zok_nil : Zok [] := fun j hj => by simp at hj
/-- Is it a well shaped tree? -/
def Sh (l : List Nd) : Bool := match szs l [] with
  | none => false
  | some z => decide (l.length ≠ 0) && decide (l.length ≤ 128) && decide (z.getD (l.length - 1) 0 = l.length)

end Go.Proofs.Ytkjljnneghnpiaa.Rg
