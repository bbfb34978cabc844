import Derived.Test.YtcfmpmhdjkchjaaOpn
namespace Go.Proofs.Ytcfmpmhdjkchjaa
open Go.ChangeShapes Go.WideShapes Go.ChangeAt Go.RowKit
open Go.ChangeMaps (open_string shut_string)
open Go.Joins Go.Deep

def i1 (z : Int) : List Value := [.int .i64 z]
theorem flat_i1 : ∀ l : List Int, flat i1 l = iC l
  | [] => rfl
  | z :: l => by show i1 z ++ flat i1 l = _; rw [flat_i1 l]; rfl
set_option maxRecDepth 100000 in
/-- Numbers that came in. -/
theorem open_ints {H : Type} (b : Bnd H) {enc : TypeId × Value → H} {W : World} {base : Nat} {v : Value} {d : DataW H} {p : List MemPlace} (hB : b.B 23 d) (hv : Value.okWide Try.prog W .any base 23 v) (h : DataW.Trod enc Try.prog W 0 (fun _ => true) true 23 v d p) :
    ∃ l : List Int, Rw W v l.length (iC l) ∧ l.length * 8 + 4096 ≤ 140737488355328 := by
  obtain ⟨fuel, hf⟩ := h
  obtain ⟨a, l, c, rfl⟩ := okWide_slice Try.underlying23 hv
  obtain ⟨E, e1, e2, _, _⟩ := open_flat i1 1 (by decide) (fun _ => rfl) 0 (fun _ => True) b (v := .slice a l c) Try.underlying23 cells3o hB (fun m cs y hy _ => by
    obtain ⟨x, f, _, _⟩ := DataW.trod_int Try.underlying3 hy
    exact ⟨x, f, trivial⟩) hf
  rw [flat_i1] at e1
  have r : reachBytes = 140737488351232 := rfl
  rw [bytes3o] at e2
  exact ⟨E, e1, by omega⟩
end Go.Proofs.Ytcfmpmhdjkchjaa
