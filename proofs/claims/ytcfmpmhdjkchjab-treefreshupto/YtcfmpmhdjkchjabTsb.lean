import Derived.Test.YtcfmpmhdjkchjabTsa
namespace Go.Proofs.Ytcfmpmhdjkchjab
open Go.RowKit Go.Maps

def m71 : Nd := ⟨⟨#[]⟩, false, ⟨#[]⟩, 0, 0, -71, 0⟩
def m72 : Nd := ⟨⟨#[]⟩, false, ⟨#[]⟩, 0, 0, -72, 0⟩
/-- Nodes in a block of the call's own, two marks behind their end. -/
def Rmy (B : Nat) (W : World) (v : Value) (t : List Nd) : Prop :=
  ∃ g cap, v = .slice (some ⟨g, 0, none⟩) t.length cap ∧ t.length + 2 ≤ cap ∧ W.ownsRow B 65 7 (.slice (some ⟨g, 0, none⟩) (t.length + 2) cap) (t.length + 2) (flat nf (t ++ [m71, m72]))
end Go.Proofs.Ytcfmpmhdjkchjab
