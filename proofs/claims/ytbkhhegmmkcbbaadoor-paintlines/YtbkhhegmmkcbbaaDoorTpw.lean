import Derived.Test.YtbkhhegmmkcbbaaDoorTpa
namespace Go.Proofs.YtbkhhegmmkcbbaaDoor
open Go.RowKit Go.Maps

theorem pth_acc (t : List Nd) (z : Int) : ∀ (f a k : Nat) (o : List Int), pth t z f a k o = o ++ pth t z f a k []
  | 0, a, k, o => by unfold pth; rw [List.append_nil]
  | f + 1, a, k, o => by
    unfold pth
    split
    · rw [List.append_nil]
    · split
      · rw [pth_acc t z f _ _ (o ++ [(a : Int)]), pth_acc t z f _ _ ([] ++ [(a : Int)]), List.nil_append, List.append_assoc]
      · rw [pth_acc t z f _ _ o]
end Go.Proofs.YtbkhhegmmkcbbaaDoor
