import Derived.Test.YtbkhhegmmkcbbaaDoorOpp
import Derived.Test.YtbkhhegmmkcbbaaDoorSmi
namespace Go.Proofs.YtbkhhegmmkcbbaaDoor
open Go.ChangeShapes Go.WideShapes Go.ChangeAt Go.RowKit
open Go.ChangeMaps (open_string shut_string)
open Go.Joins Go.Deep

theorem lit_inK {n : Int} (h : (Lit.int .i64 n).wf = true) : inI n := by
  simp only [Lit.wf, Bool.and_eq_true, decide_eq_true_eq] at h
  unfold inI
  obtain ⟨h1, h2⟩ := h
  exact ⟨h1, h2⟩
section
variable {H : Type} {enc : TypeId × Value → H} {W : World} {m : Nat} {cs : List Value} {y : DataW H × List MemPlace}
set_option maxRecDepth 100000 in
theorem k_nodeK (h : DataW.trod enc Tryd.prog W 0 (fun _ => true) true m 53 cs = some y) : ∃ a : Nd, cs = nf a ∧ a.nm.size ≤ maxLen ∧ inI a.fr ∧ inI a.tt ∧ inI a.kd := by
  obtain ⟨y0, y1, y2, y3, y4, y5, y6, q, _, hl, g0, g1, g2, g3, g4, g5, g6⟩ := trod_struct7 Tryd.underlying53 h
  rw [cellsNd] at hl
  match cs, hl with
  | [z0, z1, z2, z3, z4, z5, z6], _ =>
    simp only [cells9o, cells4o, cells3o] at g0 g1 g2 g3 g4 g5 g6
    obtain ⟨x0, f0, _, s0⟩ := DataW.trod_string Tryd.underlying9 g0
    obtain ⟨x1, f1, _⟩ := DataW.trod_bool Tryd.underlying4 g1
    obtain ⟨x2, f2, _, _⟩ := DataW.trod_string Tryd.underlying9 g2
    obtain ⟨x3, f3, _, s3⟩ := DataW.trod_int Tryd.underlying3 g3
    obtain ⟨x4, f4, _, s4⟩ := DataW.trod_int Tryd.underlying3 g4
    obtain ⟨x5, f5, _, s5⟩ := DataW.trod_int Tryd.underlying3 g5
    obtain ⟨x6, f6, _, _⟩ := DataW.trod_int Tryd.underlying3 g6
    simp at f0 f1 f2 f3 f4 f5 f6
    subst f0 f1 f2 f3 f4 f5 f6
    exact ⟨⟨x0, x1, x2, x3, x4, x5, x6⟩, rfl, s0, lit_inK s3, lit_inK s4, lit_inK s5⟩
end
set_option maxRecDepth 100000 in
theorem open_nodesK {H : Type} {enc : TypeId × Value → H} {W : World} {base : Nat} {v : Value} {d : DataW H} {p : List MemPlace} (hB : (bndW H).B 23 d) (hv : Value.okWide Tryd.prog W .any base 23 v) (h : DataW.Trod enc Tryd.prog W 0 (fun _ => true) true 23 v d p) :
    ∃ t : List Nd, Ns W v t ∧ Sm t ∧ ∀ x ∈ t, x.nm.size ≤ maxLen ∧ inI x.fr ∧ inI x.tt ∧ inI x.kd := by
  obtain ⟨fuel, hf⟩ := h
  obtain ⟨a, l, c, rfl⟩ := okWide_slice Tryd.underlying23 hv
  obtain ⟨E, e1, e2, e3, _⟩ := open_flat nf 7 (by decide) nf_len ndd (fun x => x.nm.size ≤ maxLen ∧ inI x.fr ∧ inI x.tt ∧ inI x.kd) (bndW H) (v := .slice a l c) Tryd.underlying23 cellsNd hB (fun m cs y hy _ => k_nodeK hy) hf
  have r : reachBytes = 140737488351232 := rfl
  rw [bytesNd] at e2
  exact ⟨E, e1, by show E.length * 72 + 4096 ≤ _; omega, e3⟩
end Go.Proofs.YtbkhhegmmkcbbaaDoor
