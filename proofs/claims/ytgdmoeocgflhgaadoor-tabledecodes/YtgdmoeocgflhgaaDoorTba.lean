import Derived.Test.YtgdmoeocgflhgaaDoorBas
namespace Go.Proofs.YtgdmoeocgflhgaaDoor
open Go.RowKit Go.Maps

/-- An action: its kind, its number. -/
abbrev Ak := Int × Int
def af (x : Ak) : List Value := [.int .i64 x.1, .int .i64 x.2]
def akd : Ak := (0, 0)
def gf (x : Int) : List Value := [.int .i64 x]
theorem af_len (x : Ak) : (af x).length = 2 := rfl
theorem gf_len (x : Int) : (gf x).length = 1 := rfl
theorem af_one (x : Ak) : ∀ u ∈ af x, u.oneCell' = true := fun u hu => by
  simp only [af, List.mem_cons, List.not_mem_nil, or_false] at hu
  rcases hu with rfl | rfl <;> rfl
theorem gf_one (x : Int) : ∀ u ∈ gf x, u.oneCell' = true := fun u hu => by
  simp only [gf, List.mem_cons, List.not_mem_nil, or_false] at hu
  rcases hu with rfl
  rfl
theorem af_get (l : List Ak) (i : Nat) (h : i < l.length) : (flat af l)[i * 2]? = some (.int .i64 (l.getD i akd).1) ∧ (flat af l)[i * 2 + 1]? = some (.int .i64 (l.getD i akd).2) :=
  ⟨flat_get af_len akd l i 0 h (by decide), flat_get af_len akd l i 1 h (by decide)⟩
theorem gf_get (l : List Int) (i : Nat) (h : i < l.length) : (flat gf l)[i]? = some (.int .i64 (l.getD i 0)) := by
  have h1 := flat_get gf_len 0 l i 0 h (by decide)
  rw [Nat.mul_one, Nat.add_zero] at h1
  exact h1
/-- Rows of rows in memory. -/
structure Nr {α : Type} (f : α → List Value) (W : World) (v : Value) (L : List (Value × List α)) : Prop where
  t : Rw W v L.length (L.map Prod.fst)
  r : ∀ x ∈ L, Rw W x.1 x.2.length (flat f x.2)
theorem Nr.up {α : Type} {f : α → List Value} {W W' : World} {v : Value} {L : List (Value × List α)} (h : Nr f W v L) (hb : Below W.heap.size W W') : Nr f W' v L := ⟨h.t.up hb, fun x hx => (h.r x hx).up hb⟩
def nrd {α : Type} : Value × List α := (.slice none 0 0, [])
theorem getD_mem {α : Type} (l : List α) (d : α) (i : Nat) (h : i < l.length) : l.getD i d ∈ l := by
  rw [List.getD_eq_getElem?_getD, List.getElem?_eq_getElem h]
  exact List.getElem_mem h
theorem fst_get {α : Type} (L : List (Value × List α)) (i : Nat) (h : i < L.length) : (L.map Prod.fst)[i]? = some (L.getD i nrd).1 := by
  rw [List.getElem?_map, List.getD_eq_getElem?_getD, List.getElem?_eq_getElem h]
  rfl
/-- The row at a place: its slice stands in the outer row's cell. -/
theorem Nr.at {α : Type} {f : α → List Value} {W : World} {v : Value} {L : List (Value × List α)} (h : Nr f W v L) (i : Nat) (hi : i < L.length) :
    ∃ g o cap a c, v = .slice (some ⟨g, o, none⟩) L.length cap ∧ (L.getD i nrd).1 = .slice a (L.getD i nrd).2.length c ∧ W.cell? ⟨g, o + i, none⟩ = some (.slice a (L.getD i nrd).2.length c) ∧ Rw W (.slice a (L.getD i nrd).2.length c) (L.getD i nrd).2.length (flat f (L.getD i nrd).2) := by
  obtain ⟨g, o, cap, e, hc⟩ := h.t.place (by omega)
  have hr := h.r _ (getD_mem L nrd i hi)
  obtain ⟨a, c, e2⟩ := hr.form
  refine ⟨g, o, cap, a, c, e, e2, ?_, ?_⟩
  · rw [← e2]; exact hc i _ (fst_get L i hi)
  · have h9 := hr; rw [e2] at h9; exact h9
/-- A table in memory. -/
structure Tb (W : World) (v0 v1 : Value) (A : List (Value × List Ak)) (G : List (Value × List Int)) : Prop where
  a : Nr af W v0 A
  g : Nr gf W v1 G
theorem Tb.up {W W' : World} {v0 v1 : Value} {A : List (Value × List Ak)} {G : List (Value × List Int)} (h : Tb W v0 v1 A G) (hb : Below W.heap.size W W') : Tb W' v0 v1 A G := ⟨h.a.up hb, h.g.up hb⟩
theorem Tb.form {W : World} {v0 v1 : Value} {A : List (Value × List Ak)} {G : List (Value × List Int)} (h : Tb W v0 v1 A G) : ∃ a0 c0 a1 c1, v0 = .slice a0 A.length c0 ∧ v1 = .slice a1 G.length c1 := by
  obtain ⟨a, c, e⟩ := h.a.t.form
  obtain ⟨a', c', e'⟩ := h.g.t.form
  exact ⟨a, c, a', c', e, e'⟩
/-- Small enough. -/
structure Ts (A : List (Value × List Ak)) (G : List (Value × List Int)) : Prop where
  a : A.length * 24 + 4096 ≤ 140737488355328
  g : G.length * 24 + 4096 ≤ 140737488355328
  ra : ∀ x ∈ A, x.2.length * 16 + 4096 ≤ 140737488355328
  rg : ∀ x ∈ G, x.2.length * 8 + 4096 ≤ 140737488355328
/-- The tokens of a row that have an action. -/
def vl (l : List Ak) : Nat → Nat
  | 0 => 0
  | k + 1 => if k < 64 ∧ (l.getD k akd).1 ≠ 0 then vl l k ||| 2 ^ k else vl l k
theorem vl_lt (l : List Ak) : ∀ k, vl l k < 2 ^ 64
  | 0 => by simp [vl]
  | k + 1 => by
    have ih := vl_lt l k
    simp only [vl]
    split
    · next h => exact Nat.or_lt_two_pow ih (Nat.pow_lt_pow_right (by decide) h.1)
    · exact ih
theorem vl_past (l : List Ak) : ∀ k, 64 ≤ k → vl l k = vl l 64
  | 0, h => by omega
  | k + 1, h => by
    by_cases hk : k = 63
    · rw [show k + 1 = 64 by omega]
    · have ih := vl_past l k (by omega)
      have e : vl l (k + 1) = vl l k := by
        show (if k < 64 ∧ (l.getD k akd).1 ≠ 0 then vl l k ||| 2 ^ k else vl l k) = _
        rw [if_neg (by omega)]
      rw [e]
      exact ih
/-- Valid. -/
def vld (T : List (List Ak)) (s : Int) : Nat := if 0 ≤ s ∧ s < (T.length : Int) then vl (T.getD s.toNat []) (T.getD s.toNat []).length else 0
theorem snd_getD {α : Type} (L : List (Value × List α)) (i : Nat) : (L.map Prod.snd).getD i [] = (L.getD i nrd).2 := by
  rw [List.getD_eq_getElem?_getD, List.getElem?_map, List.getD_eq_getElem?_getD]
  cases L[i]? <;> rfl
theorem u64_wrap (n : Int) (h0 : 0 ≤ n) (h1 : n < 2 ^ 64) : IntKind.u64.wrap n = n := by simp [IntKind.wrap, IntKind.bits, IntKind.signed]; omega
theorem u64_or (a b : Nat) (ha : a < 2 ^ 64) (hb : b < 2 ^ 64) : bits .or .u64 (a : Int) (b : Int) = ((a ||| b : Nat) : Int) := (bits_nat .u64 64 (by decide) u64_wrap a b ha hb).2
end Go.Proofs.YtgdmoeocgflhgaaDoor
