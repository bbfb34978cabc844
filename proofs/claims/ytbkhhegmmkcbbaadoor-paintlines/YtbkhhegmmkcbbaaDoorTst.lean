import Derived.Test.YtbkhhegmmkcbbaaDoorTnd
namespace Go.Proofs.YtbkhhegmmkcbbaaDoor
open Go.RowKit Go.Maps

theorem rts_fo {t : List Nd} : (∃ r : Nat, rt (kds t) = some r ∧ rts t = (r : Int)) ∨ (rt (kds t) = none ∧ rts t = -1) := by
  cases h : rt (kds t) with
  | none => exact .inr ⟨rfl, rts_none h⟩
  | some r => exact .inl ⟨r, rfl, rts_some h⟩
end Go.Proofs.YtbkhhegmmkcbbaaDoor
