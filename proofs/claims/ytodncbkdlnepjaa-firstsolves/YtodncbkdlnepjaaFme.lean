import Derived.Test.YtodncbkdlnepjaaFpu
namespace Go.Proofs.Ytodncbkdlnepjaa
open Go.RowKit Go.Maps

/-- A Ref: a symbol's number, two texts. -/
abbrev Rf := Int × ByteArray × ByteArray
def rf (x : Rf) : List Value := [.int .i64 x.1, .string x.2.1, .string x.2.2]
theorem rf_len (x : Rf) : (rf x).length = 3 := rfl
theorem rf_one (x : Rf) : ∀ u ∈ rf x, u.oneCell' = true := by
  intro u hu
  simp only [rf, List.mem_cons, List.not_mem_nil, or_false] at hu
  rcases hu with rfl | rfl | rfl <;> rfl
def rfd : Rf := (0, ⟨#[]⟩, ⟨#[]⟩)
theorem rf_get (l : List Rf) (i : Nat) (h : i < l.length) : (flat rf l)[i * 3]? = some (.int .i64 (l.getD i rfd).1) ∧ (flat rf l)[i * 3 + 1]? = some (.string (l.getD i rfd).2.1) ∧ (flat rf l)[i * 3 + 2]? = some (.string (l.getD i rfd).2.2) :=
  ⟨flat_get rf_len rfd l i 0 h (by decide), flat_get rf_len rfd l i 1 h (by decide), flat_get rf_len rfd l i 2 h (by decide)⟩
/-- A production in memory: its symbol, its row's slice, the row. -/
abbrev Pd := Int × Value × List Rf
def pf (x : Pd) : List Value := [.int .i64 x.1, x.2.1]
theorem pf_len (x : Pd) : (pf x).length = 2 := rfl
def pfd : Pd := (0, .slice none 0 0, [])
theorem pf_get (l : List Pd) (i : Nat) (h : i < l.length) : (flat pf l)[i * 2]? = some (.int .i64 (l.getD i pfd).1) ∧ (flat pf l)[i * 2 + 1]? = some (l.getD i pfd).2.1 :=
  ⟨flat_get pf_len pfd l i 0 h (by decide), flat_get pf_len pfd l i 1 h (by decide)⟩
/-- A grammar in memory. -/
structure Gm (W : World) (v0 v1 v2 : Value) (nT nS : Nat) (P : List Pd) : Prop where
  t : ∃ a c, v0 = .slice a nT c
  s : ∃ a c, v1 = .slice a nS c
  p : Rw W v2 P.length (flat pf P)
  r : ∀ x ∈ P, Rw W x.2.1 x.2.2.length (flat rf x.2.2)
theorem Gm.up {W W' : World} {v0 v1 v2 : Value} {nT nS : Nat} {P : List Pd} (h : Gm W v0 v1 v2 nT nS P) (hb : Below W.heap.size W W') : Gm W' v0 v1 v2 nT nS P :=
  ⟨h.t, h.s, h.p.up hb, fun x hx => (h.r x hx).up hb⟩
theorem Gm.form {W : World} {v0 v1 v2 : Value} {nT nS : Nat} {P : List Pd} (h : Gm W v0 v1 v2 nT nS P) : ∃ a0 c0 a1 c1 a2 c2, v0 = .slice a0 nT c0 ∧ v1 = .slice a1 nS c1 ∧ v2 = .slice a2 P.length c2 := by
  obtain ⟨a0, c0, e0⟩ := h.t
  obtain ⟨a1, c1, e1⟩ := h.s
  obtain ⟨a2, c2, e2⟩ := h.p.form
  exact ⟨a0, c0, a1, c1, a2, c2, e0, e1, e2⟩
/-- The sizes of a grammar. -/
structure Gz (nT nS : Nat) (P : List Pd) : Prop where
  t : nT ≤ 140737488355328
  s : nS ≤ 140737488355328
  p : P.length * 32 + 4096 ≤ 140737488355328
  r : ∀ x ∈ P, x.2.2.length * 40 + 4096 ≤ 140737488355328
/-- Are all of a row symbols? Is the grammar sound? -/
def wth (n : Nat) (r : List Rf) : Bool := r.all fun x => decide (0 ≤ x.1) && decide (x.1 < (n : Int))
def sndP (nT nS : Nat) (x : Pd) : Bool := decide (-1 ≤ x.1) && (decide (x.1 < (nS : Int)) && wth (nT + nS) x.2.2)
def snd (nT nS : Nat) (P : List Pd) : Bool := (decide (1 ≤ nT) && (decide (nT ≤ 64) && decide (nS ≤ 128))) && P.all (sndP nT nS)
theorem mem_getD {α : Type} {l : List α} {i : Nat} (h : i < l.length) (d : α) : l.getD i d ∈ l := by
  rw [List.getD_eq_getElem?_getD, List.getElem?_eq_getElem h]; exact List.getElem_mem h
theorem all_take {α : Type} (l : List α) (d : α) (p : α → Bool) (i : Nat) (h : i < l.length) (h1 : (l.take i).all p = true) (h2 : p (l.getD i d) = true) : (l.take (i + 1)).all p = true := by
  rw [List.take_succ_eq_append_getElem h, List.all_append, h1, Bool.true_and]
  rw [List.getD_eq_getElem?_getD, List.getElem?_eq_getElem h] at h2
  simpa using h2
theorem all_not {α : Type} (l : List α) (d : α) (p : α → Bool) (i : Nat) (h : i < l.length) (h2 : p (l.getD i d) = false) : l.all p = false := by
  rw [← Bool.not_eq_true]
  intro h3
  rw [List.all_eq_true.1 h3 _ (mem_getD h d)] at h2
  cases h2

set_option maxRecDepth 100000 in
set_option maxHeartbeats 4000000 in
theorem symbols_any {v0 v1 v2 : Value} {nT nS : Nat} {P : List Pd} (w : World) (h : Gm w v0 v1 v2 nT nS P) (hz : Gz nT nS P) :
    Calls Try.prog 32 #[.agg #[v0, v1, v2]] w fun e w' => e = .returned (.int .i64 ((nT + nS : Nat) : Int)) ∧ Below w.heap.size w w' := by
  obtain ⟨a0, c0, a1, c1, a2, c2, rfl, rfl, rfl⟩ := h.form
  have ha : IntKind.i64.wrap ((nT : Int) + (nS : Int)) = ((nT + nS : Nat) : Int) := by have := hz.t; have := hz.s; rw [IntKind.wrap_i64]; omega
  obtain ⟨m, hm⟩ : ∃ m, P.length = m := ⟨_, rfl⟩
  rw [hm]
  clear h hz hm
  go_enter Try.func32, Try.ntmps32
  go_wp2_with fail
  go_ret
  refine ⟨?_, bel_up _ _⟩
  first | rfl | (refine ret_int ?_; omega)
end Go.Proofs.Ytodncbkdlnepjaa
