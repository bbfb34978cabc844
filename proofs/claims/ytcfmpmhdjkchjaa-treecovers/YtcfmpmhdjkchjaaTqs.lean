import Derived.Test.YtcfmpmhdjkchjaaTse
namespace Go.Proofs.Ytcfmpmhdjkchjaa
open Go.RowKit Go.Maps

/-- The nodes from a place to another. -/
def seg (t : List Nd) (a b : Nat) : List Nd := (t.drop a).take (b - a)
theorem seg_len (t : List Nd) (a b : Nat) (hb : b ≤ t.length) : (seg t a b).length = b - a := by unfold seg; rw [List.length_take, List.length_drop]; omega
theorem seg_self (t : List Nd) (a : Nat) : seg t a a = [] := by unfold seg; rw [Nat.sub_self]; rfl
theorem seg_app (t : List Nd) (a b c : Nat) (h1 : a ≤ b) (h2 : b ≤ c) : seg t a b ++ seg t b c = seg t a c := by
  unfold seg
  rw [show c - a = (b - a) + (c - b) by omega, List.take_add, List.drop_drop, show a + (b - a) = b by omega]
theorem seg_one (t : List Nd) (b : Nat) (h : b < t.length) : seg t b (b + 1) = [t.getD b ndd] := by
  unfold seg
  rw [show b + 1 - b = 1 by omega, List.drop_eq_getElem_cons h, List.take_succ_cons, List.take_zero, List.getD_eq_getElem?_getD, List.getElem?_eq_getElem h]
  rfl
end Go.Proofs.Ytcfmpmhdjkchjaa
