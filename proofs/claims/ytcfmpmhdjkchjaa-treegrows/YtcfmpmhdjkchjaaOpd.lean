import Derived.Test.YtcfmpmhdjkchjaaOpc
namespace Go.Proofs.Ytcfmpmhdjkchjaa
open Go.ChangeShapes Go.WideShapes Go.ChangeAt Go.RowKit
open Go.ChangeMaps (open_string shut_string)
open Go.Joins Go.Deep

section
variable {H : Type} {enc : TypeId × Value → H} {W : World} {m : Nat} {cs : List Value} {y : DataW H × List MemPlace}
set_option maxRecDepth 100000 in
theorem k_prodX (b : Bnd H) (h : DataW.trod enc Try.prog W 0 (fun _ => true) true m 100 cs = some y) (hB : b.B 100 y.1) : ∃ a : Pd, cs = pf a ∧ (Rw W a.2.1 a.2.2.length (flat rf a.2.2) ∧ a.2.2.length * 40 + 4096 ≤ 140737488355328 ∧ (∀ r ∈ a.2.2, r.1 ≤ 9223372036854775807) ∧ a.1 ≤ 9223372036854775807) := by
  obtain ⟨y0, y1, q, hy, hl, g0, g1⟩ := trod_struct2 Try.underlying100 h
  rw [cellsPdW] at hl
  rw [hy] at hB
  have hB1 := b.ag Try.underlying100 hB 1 _ y1.1 rfl rfl
  match cs, hl with
  | [z0, z1], _ =>
    simp only [cells3o, cellssRW] at g0 g1
    obtain ⟨x0, f0, _, hw0⟩ := DataW.trod_int Try.underlying3 g0
    simp at f0
    subst f0
    obtain ⟨E, e1, e2, e3, _⟩ := open_flat rf 3 (by decide) rf_len rfd (fun a : Rf => a.1 ≤ 9223372036854775807) b (v := z1) Try.underlying98 cellsRfW hB1 (fun m cs y hy _ => k_refW hy) g1
    have r : reachBytes = 140737488351232 := rfl
    rw [bytesRfW] at e2
    exact ⟨(x0, z1, E), rfl, e1, by show E.length * 40 + 4096 ≤ _; omega, e3, i64_leW hw0⟩
end
set_option maxRecDepth 100000 in
/-- A language that came in: its grammar. -/
theorem open_langX {H : Type} (b : Bnd H) {enc : TypeId × Value → H} {W : World} {base : Nat} {v : Value} {d : DataW H} {p : List MemPlace} (hB : b.B 52 d) (hv : Value.okWide Try.prog W .any base 52 v) (h : DataW.Trod enc Try.prog W 0 (fun _ => true) true 52 v d p) :
    ∃ u v0 v1 v2 Te Sy P, v = lgv u v0 v1 v2 ∧ Gx W v0 v1 v2 Te Sy P ∧ Gs Te Sy P ∧ (∀ x ∈ P, ∀ r ∈ x.2.2, r.1 ≤ 9223372036854775807) ∧ ∀ x ∈ P, x.1 ≤ 9223372036854775807 := by
  obtain ⟨cs, rfl, hsz⟩ := okWide_struct Try.underlying52 hv
  rw [cellsLgW] at hsz
  match cs, hsz with
  | ⟨[c0, c1, c2, c3, c4, c5, c6, c7, c8, c9, c10, c11]⟩, _ =>
    obtain ⟨fuel, hf⟩ := h
    obtain ⟨xs, n, _, hx, hl, hlen, hff⟩ := DataW.trod_struct Try.underlying52 hf
    have g := hff 2 _ rfl
    have hd : d = .agg (xs.map (·.1)) := congrArg Prod.fst hx
    rw [hd] at hB
    cases hx2 : xs[2]? with
    | none =>
      rw [List.getElem?_eq_none_iff] at hx2
      have : xs.length = 9 := hlen
      omega
    | some y =>
      rw [hx2] at g
      have hBy : b.B 41 y.1 := b.ag Try.underlying52 hB 2 _ y.1 rfl (by rw [List.getElem?_map, hx2]; rfl)
      obtain ⟨y0, y1, y2, q, hy, _, g0, g1, g2⟩ := trod_struct3 Try.underlying41 g
      have hy1 : y.1 = .agg [y0.1, y1.1, y2.1] := by rw [hy]
      rw [hy1] at hBy
      have hb0 := b.ag Try.underlying41 hBy 0 _ y0.1 rfl rfl
      have hb1 := b.ag Try.underlying41 hBy 1 _ y1.1 rfl rfl
      have hb2 := b.ag Try.underlying41 hBy 2 _ y2.1 rfl rfl
      simp [cellssTW, cellssSW, cellssPW, cellsGrW] at g0 g1 g2
      obtain ⟨Te, t1, t2, _⟩ := open_flat tdf 2 (by decide) tdf_len tdd (fun _ => True) b (v := c2) Try.underlying37 cellsTdW hb0 (fun m cs y hy _ => k_termW hy) g0
      obtain ⟨Sy, s1, s2, _⟩ := open_flat sdf 2 (by decide) sdf_len sdd (fun _ => True) b (v := c3) Try.underlying38 cellsSdW hb1 (fun m cs y hy _ => k_symW hy) g1
      obtain ⟨P, p1, p2, p3, _⟩ := open_flat pf 2 (by decide) pf_len pfd (fun a : Pd => Rw W a.2.1 a.2.2.length (flat rf a.2.2) ∧ a.2.2.length * 40 + 4096 ≤ 140737488355328 ∧ (∀ r ∈ a.2.2, r.1 ≤ 9223372036854775807) ∧ a.1 ≤ 9223372036854775807) b (v := c4) Try.underlying39 cellsPdW hb2 (fun m cs y hy hb => k_prodX b hy hb) g2
      have r : reachBytes = 140737488351232 := rfl
      rw [bytesTdW] at t2
      rw [bytesSdW] at s2
      rw [bytesPdW] at p2
      exact ⟨fun k => [c0, c1, c2, c3, c4, c5, c6, c7, c8, c9, c10, c11].getD k c0, c2, c3, c4, Te, Sy, P, rfl, ⟨t1, s1, p1, fun x hx => (p3 x hx).1⟩, ⟨by omega, by omega, by omega, fun x hx => (p3 x hx).2.1⟩, fun x hx => (p3 x hx).2.2.1, fun x hx => (p3 x hx).2.2.2⟩
end Go.Proofs.Ytcfmpmhdjkchjaa
