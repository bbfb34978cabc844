import Derived.Test.YticheeacbajeeaaTnd
namespace Go.Proofs.Yticheeacbajeeaa
open Go.RowKit Go.Maps

/-- Is it the place of a node of a forest? -/
def std (t : List Nd) (at_ : Int) : Bool := decide (0 ≤ at_) && (decide (at_ < (t.length : Int)) && decide (0 ≤ rts t))
theorem rts_fo {t : List Nd} : (∃ r : Nat, rt (kds t) = some r ∧ rts t = (r : Int)) ∨ (rt (kds t) = none ∧ rts t = -1) := by
  cases h : rt (kds t) with
  | none => exact .inr ⟨rfl, rts_none h⟩
  | some r => exact .inl ⟨r, rfl, rts_some h⟩
theorem std_true {t : List Nd} {z : Int} (h : std t z = true) : ∃ a : Nat, z = (a : Int) ∧ a < t.length ∧ Fo (kds t) := by
  simp only [std, Bool.and_eq_true, decide_eq_true_eq] at h
  obtain ⟨h0, h1, h2⟩ := h
  refine ⟨z.toNat, by omega, by omega, ?_⟩
  rcases @rts_fo t with ⟨r, hr, _⟩ | ⟨_, he⟩
  · exact ⟨r, hr⟩
  · omega
theorem std_of {t : List Nd} {a : Nat} (ha : a < t.length) (hf : Fo (kds t)) : std t (a : Int) = true := by
  obtain ⟨r, hr⟩ := hf
  have := rts_some hr
  simp only [std, Bool.and_eq_true, decide_eq_true_eq]
  omega
/-- The answer of Parent. -/
def prt (t : List Nd) (z : Int) : Int := if std t z then pl (kds t) z.toNat else -1
end Go.Proofs.Yticheeacbajeeaa
