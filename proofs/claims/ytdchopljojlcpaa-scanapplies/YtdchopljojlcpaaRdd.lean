import Derived.Test.YtdchopljojlcpaaProg
import Derived.Test.YtdchopljojlcpaaShelf
import Derived.Test.YtdchopljojlcpaaLis
namespace Go.Proofs.Ytdchopljojlcpaa
open Go.RowKit Go.Maps

theorem cel_of {W W2 : World} {B b k : Nat} {e t : TypeId} {size n : Nat} {v u : Value} {xs : List Value} {cs : Array Value} (hg : W.grownBy W2 v.ownBlock) (hb : W.heap[b]? = some (.cells cs t (0, 0))) (hr : W.ownsRow B e size v n xs) (hne : e ≠ t) (hk : cs[k]? = some u) : W2.cell? ⟨b, k, none⟩ = some u := by
  rw [Lib.cell_of_heap ((hg.block b (lt_of_heap hb) (fun e => tag_ne_blk hr hb hne e.symm)).trans hb)]; exact hk
theorem froz_of {W W2 : World} {B b k : Nat} {e t : TypeId} {size n : Nat} {v : Value} {xs : List Value} {cs : Array Value} (hg : W.grownBy W2 v.ownBlock) (hb : W.heap[b]? = some (.cells cs t (0, 0))) (hr : W.ownsRow B e size v n xs) (hne : e ≠ t) : W2.frozen? ⟨b, k, none⟩ = false :=
  Lib.frozen_of_heap ((hg.block b (lt_of_heap hb) (fun e => tag_ne_blk hr hb hne e.symm)).trans hb) k
theorem rcell {W : World} {b : Nat} {cs : Array Value} {t : TypeId} (h : W.heap[b]? = some (.cells cs t (0, 0))) (k : Nat) (v : Value) (hk : cs[k]? = some v) : W.cell? ⟨b, k, none⟩ = some v := by rw [Lib.cell_of_heap h]; exact hk
end Go.Proofs.Ytdchopljojlcpaa
