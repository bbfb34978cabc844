import Derived.Test.YticheeacbajeeaaTsf
namespace Go.Proofs.Yticheeacbajeeaa
open Go.RowKit Go.Maps

theorem Fo.last {l : List Int} {k : Nat} (h : rt l = some k) : wA l 0 k = l.length := by
  have hf : Fo l := ⟨k, h⟩
  have ht := Fo.top h
  obtain ⟨h1, h2, _⟩ := hf.end 0 k (Nat.zero_le _) (by omega)
  rcases Nat.lt_or_ge (wA l 0 k) l.length with h3 | h3
  · have := hf.pos _ h3; omega
  · omega
/-- A forest in a cursor. -/
def Mf (B : Nat) (w0 : World) (t : List Nd) (ad : Option Addr) (k cp : Nat) : Prop :=
  rt (kds t) = some k ∧ FrM (fun g => B ≤ g) w0 t (.slice ad k cp) 0 k ∨ rt (kds t) = none ∧ ad = none ∧ k = 0 ∧ cp = 0
end Go.Proofs.Yticheeacbajeeaa
