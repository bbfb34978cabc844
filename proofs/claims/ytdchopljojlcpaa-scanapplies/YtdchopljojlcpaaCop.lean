import Derived.Test.YtdchopljojlcpaaProg
import Derived.Test.YtdchopljojlcpaaShelf
import Derived.Test.YtdchopljojlcpaaOwn
namespace Go.Proofs.Ytdchopljojlcpaa
open Go.RowKit Go.Maps

theorem row_off {W : World} {B b k : Nat} {e t : TypeId} {size n : Nat} {v u : Value} {xs : List Value} {cs : Array Value} (hb : W.heap[b]? = some (.cells cs t (0, 0))) (h : W.ownsRow B e size v n xs) (he : e ≠ t) : (W.setCell ⟨b, k, none⟩ u).ownsRow B e size v n xs ∧ (W.setCell ⟨b, k, none⟩ u).heap[b]? = some (.cells (cs.setIfInBounds k u) t (0, 0)) :=
  ⟨h.kept grown_set (.inr (tag_ne_blk h hb he)), blk_set u hb⟩
end Go.Proofs.Ytdchopljojlcpaa
