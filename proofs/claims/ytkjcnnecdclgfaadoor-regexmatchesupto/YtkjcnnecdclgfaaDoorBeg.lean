import Derived.Maps.AppendAt
import Derived.Test.YtkjcnnecdclgfaaDoorPrt
namespace Go.Proofs.YtkjcnnecdclgfaaDoor
open Go.RowKit
theorem own_slice {w : World} {base e z : Nat} {v : Value} {n : Nat} {xs : List Value} (h : w.ownsRow base e z v n xs) : ∃ a cap, v = .slice a n cap := by
  obtain ⟨h1, h2⟩ := h
  rcases h2 with ⟨rfl, h2⟩ | ⟨g, cap, cur, rfl, hg, hh, hcap, _⟩
  · subst h2
    exact ⟨_, _, rfl⟩
  · exact ⟨_, _, rfl⟩
theorem AtN.mono {W W' : World} {k : Nat} {op : Int} {m : Nat → Bool} {x y : Int} (h : AtN W k op m x y) (hb : Below W.heap.size W W') : AtN W' k op m x y := ⟨below_heap hb h.h (lt_of_heap h.h)⟩
end Go.Proofs.YtkjcnnecdclgfaaDoor
