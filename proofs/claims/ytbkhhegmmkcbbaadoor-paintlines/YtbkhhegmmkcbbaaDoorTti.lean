import Derived.Test.YtbkhhegmmkcbbaaDoorTkd
namespace Go.Proofs.YtbkhhegmmkcbbaaDoor
open Go.RowKit Go.Maps

theorem row_froz {W : World} {B : Nat} {e : TypeId} {size n m g cap : Nat} {xs : List Value} (h : W.ownsRow B e size (.slice (some ⟨g, 0, none⟩) n cap) m xs) (k : Nat) : W.frozen? ⟨g, k, none⟩ = false := by
  obtain ⟨_, cur, hh⟩ := row_tag h g rfl
  exact Lib.frozen_of_heap hh k
end Go.Proofs.YtbkhhegmmkcbbaaDoor
