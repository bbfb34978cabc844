import Derived.Test.YtcfmpmhdjkchjabTsc
namespace Go.Proofs.Ytcfmpmhdjkchjab
open Go.RowKit Go.Maps
theorem Rmy.up {B : Nat} {W W' : World} {v : Value} {t : List Nd} (h : Rmy B W v t) (hb : Below W.heap.size W W') : Rmy B W' v t := by
  obtain ⟨g, cap, e, h1, h2⟩ := h
  exact ⟨g, cap, e, h1, row_up h2 hb⟩
/-- The nodes ahead of the marks. -/
theorem Rmy.ns {B : Nat} {W : World} {v : Value} {t : List Nd} (h : Rmy B W v t) : Ns W v t := by
  obtain ⟨g, cap, rfl, h1, h2⟩ := h
  obtain ⟨a, g', o, cap', e, h3, h4, h5, h6⟩ := row_rw h2 (by decide)
  obtain ⟨rfl, -, rfl⟩ := Value.slice.inj e
  refine ⟨_, g', o, cap, rfl, by omega, fun h => (by cases h), fun _ => h5 (by omega), fun j u hu => h6 j u ?_⟩
  rw [flat_app, List.getElem?_append_left (List.getElem?_eq_some_iff.1 hu).1]
  exact hu
end Go.Proofs.Ytcfmpmhdjkchjab
