import Derived.Test.YtcfmpmhdjkchjaaOpn
import Derived.Test.YtcfmpmhdjkchjaaTma
namespace Go.Proofs.Ytcfmpmhdjkchjaa
open Go.ChangeShapes Go.WideShapes Go.ChangeAt Go.RowKit
open Go.ChangeMaps (open_string shut_string)
open Go.Joins Go.Deep

theorem cellsTdW : Try.prog.cellsOf 95 = 2 := by kernel_rfl
theorem cellsSdW : Try.prog.cellsOf 56 = 2 := by kernel_rfl
theorem cellsPdW : Try.prog.cellsOf 100 = 2 := by kernel_rfl
theorem cellsRfW : Try.prog.cellsOf 97 = 3 := by kernel_rfl
theorem cellsOpW : Try.prog.cellsOf 104 = 3 := by kernel_rfl
theorem cellsSkW : Try.prog.cellsOf 54 = 1 := by kernel_rfl
theorem cellssTW : Try.prog.cellsOf 37 = 1 := by kernel_rfl
theorem cellssSW : Try.prog.cellsOf 38 = 1 := by kernel_rfl
theorem cellssPW : Try.prog.cellsOf 39 = 1 := by kernel_rfl
theorem cellssRW : Try.prog.cellsOf 98 = 1 := by kernel_rfl
theorem cellsGrW : Try.prog.cellsOf 41 = 3 := by kernel_rfl
theorem cellsLgW : Try.prog.cellsOf 52 = 12 := by kernel_rfl
theorem bytesTdW : Try.prog.bytesOf 95 = 24 := by kernel_rfl
theorem bytesSdW : Try.prog.bytesOf 56 = 24 := by kernel_rfl
theorem bytesPdW : Try.prog.bytesOf 100 = 32 := by kernel_rfl
theorem bytesRfW : Try.prog.bytesOf 97 = 40 := by kernel_rfl
theorem bytesOpW : Try.prog.bytesOf 104 = 24 := by kernel_rfl
theorem i64_leW {x : Int} (h : (Lit.int .i64 x).wf = true) : x ≤ 9223372036854775807 := by
  simp [Lit.wf, IntKind.min, IntKind.max, IntKind.bits, IntKind.signed] at h
  omega
section
variable {H : Type} {enc : TypeId × Value → H} {W : World} {m : Nat} {cs : List Value} {y : DataW H × List MemPlace}
set_option maxRecDepth 100000 in
theorem k_refW (h : DataW.trod enc Try.prog W 0 (fun _ => true) true m 97 cs = some y) : ∃ a : Rf, cs = rf a ∧ a.1 ≤ 9223372036854775807 := by
  obtain ⟨y0, y1, y2, q, _, hl, g0, g1, g2⟩ := trod_struct3 Try.underlying97 h
  rw [cellsRfW] at hl
  match cs, hl with
  | [z0, z1, z2], _ =>
    simp only [cells3o, cells9o] at g0 g1 g2
    obtain ⟨x0, f0, _, hw⟩ := DataW.trod_int Try.underlying3 g0
    obtain ⟨x1, f1, _, _⟩ := DataW.trod_string Try.underlying9 g1
    obtain ⟨x2, f2, _, _⟩ := DataW.trod_string Try.underlying9 g2
    simp at f0 f1 f2
    subst f0 f1 f2
    exact ⟨(x0, x1, x2), rfl, i64_leW hw⟩
set_option maxRecDepth 100000 in
theorem k_opW (h : DataW.trod enc Try.prog W 0 (fun _ => true) true m 104 cs = some y) : ∃ a : Op3, cs = opf a ∧ True := by
  obtain ⟨y0, y1, y2, q, _, hl, g0, g1, g2⟩ := trod_struct3 Try.underlying104 h
  rw [cellsOpW] at hl
  match cs, hl with
  | [z0, z1, z2], _ =>
    simp only [cells3o] at g0 g1 g2
    obtain ⟨x0, f0, _, _⟩ := DataW.trod_int Try.underlying3 g0
    obtain ⟨x1, f1, _, _⟩ := DataW.trod_int Try.underlying3 g1
    obtain ⟨x2, f2, _, _⟩ := DataW.trod_int Try.underlying3 g2
    simp at f0 f1 f2
    subst f0 f1 f2
    exact ⟨(x0, x1, x2), rfl, trivial⟩
set_option maxRecDepth 100000 in
theorem k_termW (h : DataW.trod enc Try.prog W 0 (fun _ => true) true m 95 cs = some y) : ∃ a : Td, cs = tdf a ∧ True := by
  obtain ⟨y0, y1, q, _, hl, g0, g1⟩ := trod_struct2 Try.underlying95 h
  rw [cellsTdW] at hl
  match cs, hl with
  | [z0, z1], _ =>
    simp only [cells4o, cells9o] at g0 g1
    obtain ⟨x0, f0, _, _⟩ := DataW.trod_string Try.underlying9 g0
    obtain ⟨x1, f1, _⟩ := DataW.trod_bool Try.underlying4 g1
    simp at f0 f1
    subst f0 f1
    exact ⟨(x0, x1), rfl, trivial⟩
set_option maxRecDepth 100000 in
theorem k_symW (h : DataW.trod enc Try.prog W 0 (fun _ => true) true m 56 cs = some y) : ∃ a : Sd, cs = sdf a ∧ True := by
  obtain ⟨y0, y1, q, _, hl, g0, g1⟩ := trod_struct2 Try.underlying56 h
  rw [cellsSdW] at hl
  match cs, hl with
  | [z0, z1], _ =>
    simp only [cellsSkW, cells9o] at g0 g1
    obtain ⟨x0, f0, _, _⟩ := DataW.trod_string Try.underlying9 g0
    obtain ⟨x1, f1, _⟩ := DataW.trod_int Try.underlying54 g1
    simp at f0 f1
    subst f0 f1
    exact ⟨(x0, x1), rfl, trivial⟩
set_option maxRecDepth 100000 in
theorem k_prodW (b : Bnd H) (h : DataW.trod enc Try.prog W 0 (fun _ => true) true m 100 cs = some y) (hB : b.B 100 y.1) : ∃ a : Pd, cs = pf a ∧ (Rw W a.2.1 a.2.2.length (flat rf a.2.2) ∧ a.2.2.length * 40 + 4096 ≤ 140737488355328 ∧ ∀ r ∈ a.2.2, r.1 ≤ 9223372036854775807) := by
  obtain ⟨y0, y1, q, hy, hl, g0, g1⟩ := trod_struct2 Try.underlying100 h
  rw [cellsPdW] at hl
  rw [hy] at hB
  have hB1 := b.ag Try.underlying100 hB 1 _ y1.1 rfl rfl
  match cs, hl with
  | [z0, z1], _ =>
    simp only [cells3o, cellssRW] at g0 g1
    obtain ⟨x0, f0, _, _⟩ := DataW.trod_int Try.underlying3 g0
    simp at f0
    subst f0
    obtain ⟨E, e1, e2, e3, _⟩ := open_flat rf 3 (by decide) rf_len rfd (fun a : Rf => a.1 ≤ 9223372036854775807) b (v := z1) Try.underlying98 cellsRfW hB1 (fun m cs y hy _ => k_refW hy) g1
    have r : reachBytes = 140737488351232 := rfl
    rw [bytesRfW] at e2
    exact ⟨(x0, z1, E), rfl, e1, by show E.length * 40 + 4096 ≤ _; omega, e3⟩
end
set_option maxRecDepth 100000 in
/-- A language that came in: its grammar. -/
theorem open_langW {H : Type} (b : Bnd H) {enc : TypeId × Value → H} {W : World} {base : Nat} {v : Value} {d : DataW H} {p : List MemPlace} (hB : b.B 52 d) (hv : Value.okWide Try.prog W .any base 52 v) (h : DataW.Trod enc Try.prog W 0 (fun _ => true) true 52 v d p) :
    ∃ u v0 v1 v2 Te Sy P, v = lgv u v0 v1 v2 ∧ Gx W v0 v1 v2 Te Sy P ∧ Gs Te Sy P ∧ ∀ x ∈ P, ∀ r ∈ x.2.2, r.1 ≤ 9223372036854775807 := by
  obtain ⟨cs, rfl, hsz⟩ := okWide_struct Try.underlying52 hv
  rw [cellsLgW] at hsz
  match cs, hsz with
  | ⟨[c0, c1, c2, c3, c4, c5, c6, c7, c8, c9, c10, c11]⟩, _ =>
    obtain ⟨fuel, hf⟩ := h
    obtain ⟨xs, n, _, hx, hl, hlen, hff⟩ := DataW.trod_struct Try.underlying52 hf
    have g := hff 2 _ rfl
    have hd : d = .agg (xs.map (·.1)) := congrArg Prod.fst hx
    rw [hd] at hB
    cases hx2 : xs[2]? with
    | none =>
      rw [List.getElem?_eq_none_iff] at hx2
      have : xs.length = 9 := hlen
      omega
    | some y =>
      rw [hx2] at g
      have hBy : b.B 41 y.1 := b.ag Try.underlying52 hB 2 _ y.1 rfl (by rw [List.getElem?_map, hx2]; rfl)
      obtain ⟨y0, y1, y2, q, hy, _, g0, g1, g2⟩ := trod_struct3 Try.underlying41 g
      have hy1 : y.1 = .agg [y0.1, y1.1, y2.1] := by rw [hy]
      rw [hy1] at hBy
      have hb0 := b.ag Try.underlying41 hBy 0 _ y0.1 rfl rfl
      have hb1 := b.ag Try.underlying41 hBy 1 _ y1.1 rfl rfl
      have hb2 := b.ag Try.underlying41 hBy 2 _ y2.1 rfl rfl
      simp [cellssTW, cellssSW, cellssPW, cellsGrW] at g0 g1 g2
      obtain ⟨Te, t1, t2, _⟩ := open_flat tdf 2 (by decide) tdf_len tdd (fun _ => True) b (v := c2) Try.underlying37 cellsTdW hb0 (fun m cs y hy _ => k_termW hy) g0
      obtain ⟨Sy, s1, s2, _⟩ := open_flat sdf 2 (by decide) sdf_len sdd (fun _ => True) b (v := c3) Try.underlying38 cellsSdW hb1 (fun m cs y hy _ => k_symW hy) g1
      obtain ⟨P, p1, p2, p3, _⟩ := open_flat pf 2 (by decide) pf_len pfd (fun a : Pd => Rw W a.2.1 a.2.2.length (flat rf a.2.2) ∧ a.2.2.length * 40 + 4096 ≤ 140737488355328 ∧ ∀ r ∈ a.2.2, r.1 ≤ 9223372036854775807) b (v := c4) Try.underlying39 cellsPdW hb2 (fun m cs y hy hb => k_prodW b hy hb) g2
      have r : reachBytes = 140737488351232 := rfl
      rw [bytesTdW] at t2
      rw [bytesSdW] at s2
      rw [bytesPdW] at p2
      exact ⟨fun k => [c0, c1, c2, c3, c4, c5, c6, c7, c8, c9, c10, c11].getD k c0, c2, c3, c4, Te, Sy, P, rfl, ⟨t1, s1, p1, fun x hx => (p3 x hx).1⟩, ⟨by omega, by omega, by omega, fun x hx => (p3 x hx).2.1⟩, fun x hx => (p3 x hx).2.2⟩
set_option maxRecDepth 100000 in
/-- Steps of a maker that came in. -/
theorem open_ops {H : Type} (b : Bnd H) {enc : TypeId × Value → H} {W : World} {base : Nat} {v : Value} {d : DataW H} {p : List MemPlace} (hB : b.B 53 d) (hv : Value.okWide Try.prog W .any base 53 v) (h : DataW.Trod enc Try.prog W 0 (fun _ => true) true 53 v d p) :
    ∃ L : List Op3, Rw W v L.length (flat opf L) ∧ L.length * 24 + 4096 ≤ 140737488355328 := by
  obtain ⟨fuel, hf⟩ := h
  obtain ⟨a, l, c, rfl⟩ := okWide_slice Try.underlying53 hv
  obtain ⟨E, e1, e2, _, _⟩ := open_flat opf 3 (by decide) opf_len opd (fun _ => True) b (v := .slice a l c) Try.underlying53 cellsOpW hB (fun m cs y hy _ => k_opW hy) hf
  have r : reachBytes = 140737488351232 := rfl
  rw [bytesOpW] at e2
  exact ⟨E, e1, by omega⟩
end Go.Proofs.Ytcfmpmhdjkchjaa
