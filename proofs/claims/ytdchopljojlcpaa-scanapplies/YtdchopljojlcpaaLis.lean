import Derived.Test.YtdchopljojlcpaaProg
import Derived.Test.YtdchopljojlcpaaShelf
import Derived.Test.YtdchopljojlcpaaRsp
namespace Go.Proofs.Ytdchopljojlcpaa
open Go.RowKit Go.Maps

theorem row_base {W : World} {B B' : Nat} {e : TypeId} {size n : Nat} {v : Value} {xs : List Value} (h : W.ownsRow B e size v n xs) (hb : B' ≤ B) : W.ownsRow B' e size v n xs := by
  refine ⟨h.1, ?_⟩
  rcases h.2 with h | ⟨g, cap, cur, h0, h1, h2⟩
  · exact .inl h
  · exact .inr ⟨g, cap, cur, h0, Nat.le_trans hb h1, h2⟩
end Go.Proofs.Ytdchopljojlcpaa
