import Derived.Test.YtdchopljojlcpaaProg
import Derived.Test.YtdchopljojlcpaaShelf
import Derived.Test.YtdchopljojlcpaaRdd
namespace Go.Proofs.Ytdchopljojlcpaa
open Go.RowKit Go.Maps

theorem row_cap {W : World} {B : Nat} {e : TypeId} {size n m g cap : Nat} {xs : List Value} (h : W.ownsRow B e size (.slice (some ⟨g, 0, none⟩) n cap) m xs) : m ≤ cap ∧ cap ≤ maxLen := by
  rcases h.2 with ⟨h, _⟩ | ⟨g', cap', cur, h0, h1, h2, h3, h4, _⟩
  · cases h
  · obtain ⟨-, -, rfl⟩ := Value.slice.inj h0
    exact ⟨h3, h4⟩
end Go.Proofs.Ytdchopljojlcpaa
