import Derived.Test.YtcfmpmhdjkchjabOpu
namespace Go.Proofs.Ytcfmpmhdjkchjab
open Go.ChangeShapes Go.WideShapes Go.ChangeAt Go.RowKit
open Go.ChangeMaps (open_string shut_string)
open Go.Joins Go.Deep

theorem str_bulk {H : Type} {s : ByteArray} (h : Rows.uptoBulk (H := H) (.lit (.string s.data.toList)) ≤ 1048576) : s.size ≤ 1048576 := by
  simp only [Rows.uptoBulk] at h
  have e : s.data.toList.length = s.size := Array.length_toList
  omega
section
variable {H : Type} {enc : TypeId × Value → H} {W : World} {m : Nat} {cs : List Value} {y : DataW H × List MemPlace}
set_option maxRecDepth 100000 in
theorem k_nodeU (h : DataW.trod enc Try.prog W 0 (fun _ => true) true m 65 cs = some y) (hB : (bndU H).B 65 y.1) : ∃ a : Nd, cs = nf a ∧ (a.nm.size ≤ 1048576 ∧ a.fd.size ≤ 1048576) := by
  obtain ⟨y0, y1, y2, y3, y4, y5, y6, q, hy, hl, g0, g1, g2, g3, g4, g5, g6⟩ := trod_struct7 Try.underlying65 h
  rw [cellsNd] at hl
  rw [hy] at hB
  have hb : Rows.uptoBulk y0.1 ≤ 1048576 ∧ Rows.uptoBulk y2.1 ≤ 1048576 := by
    have h1 := hB.1
    simp only [Rows.uptoBulk, Rows.uptoBulkAll] at h1
    omega
  match cs, hl with
  | [z0, z1, z2, z3, z4, z5, z6], _ =>
    simp only [cells9o, cells4o, cells3o] at g0 g1 g2 g3 g4 g5 g6
    obtain ⟨x0, f0, e0, _⟩ := DataW.trod_string Try.underlying9 g0
    obtain ⟨x1, f1, _⟩ := DataW.trod_bool Try.underlying4 g1
    obtain ⟨x2, f2, e2, _⟩ := DataW.trod_string Try.underlying9 g2
    obtain ⟨x3, f3, _, _⟩ := DataW.trod_int Try.underlying3 g3
    obtain ⟨x4, f4, _, _⟩ := DataW.trod_int Try.underlying3 g4
    obtain ⟨x5, f5, _, _⟩ := DataW.trod_int Try.underlying3 g5
    obtain ⟨x6, f6, _, _⟩ := DataW.trod_int Try.underlying3 g6
    simp at f0 f1 f2 f3 f4 f5 f6
    subst f0 f1 f2 f3 f4 f5 f6
    rw [e0, e2] at hb
    exact ⟨⟨x0, x1, x2, x3, x4, x5, x6⟩, rfl, str_bulk hb.1, str_bulk hb.2⟩
end
end Go.Proofs.Ytcfmpmhdjkchjab
