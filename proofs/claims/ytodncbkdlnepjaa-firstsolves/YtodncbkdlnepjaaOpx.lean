import Derived.Test.YtodncbkdlnepjaaOpm
import Derived.Test.YtodncbkdlnepjaaFtd
namespace Go.Proofs.Ytodncbkdlnepjaa
open Go.ChangeShapes Go.WideShapes Go.ChangeAt Go.RowKit
open Go.ChangeMaps (open_string shut_string)
open Go.Joins Go.Deep

theorem cells58o : Try.prog.cellsOf 58 = 2 := by kernel_rfl
theorem cells61o : Try.prog.cellsOf 61 = 2 := by kernel_rfl
theorem cells59o : Try.prog.cellsOf 59 = 1 := by kernel_rfl
section
variable {H : Type} {enc : TypeId × Value → H} {W : World} {m : Nat} {cs : List Value} {y : DataW H × List MemPlace}
set_option maxRecDepth 100000 in
theorem k_tdef (h : DataW.trod enc Try.prog W 0 (fun _ => true) true m 58 cs = some y) : ∃ a : Td, cs = tdf a ∧ True := by
  obtain ⟨y0, y1, q, _, hl, g0, g1⟩ := trod_struct2 Try.underlying58 h
  rw [cells58o] at hl
  match cs, hl with
  | [z0, z1], _ =>
    simp only [cells9o, cells4o] at g0 g1
    obtain ⟨x0, f0, _, _⟩ := DataW.trod_string Try.underlying9 g0
    obtain ⟨x1, f1, _⟩ := DataW.trod_bool Try.underlying4 g1
    simp at f0 f1
    subst f0 f1
    exact ⟨(x0, x1), rfl, trivial⟩
set_option maxRecDepth 100000 in
theorem k_sym (h : DataW.trod enc Try.prog W 0 (fun _ => true) true m 61 cs = some y) : ∃ a : Sd, cs = sdf a ∧ True := by
  obtain ⟨y0, y1, q, _, hl, g0, g1⟩ := trod_struct2 Try.underlying61 h
  rw [cells61o] at hl
  match cs, hl with
  | [z0, z1], _ =>
    simp only [cells9o, cells59o] at g0 g1
    obtain ⟨x0, f0, _, _⟩ := DataW.trod_string Try.underlying9 g0
    obtain ⟨x1, f1, _, _⟩ := DataW.trod_int Try.underlying59 g1
    simp at f0 f1
    subst f0 f1
    exact ⟨(x0, x1), rfl, trivial⟩
end
set_option maxRecDepth 100000 in
/-- A grammar that came in, with its names. -/
theorem open_gx {H : Type} (b : Bnd H) {enc : TypeId × Value → H} {W : World} {base : Nat} {v : Value} {d : DataW H} {p : List MemPlace} (hB : b.B 26 d) (hv : Value.okWide Try.prog W .any base 26 v) (h : DataW.Trod enc Try.prog W 0 (fun _ => true) true 26 v d p) :
    ∃ v0 v1 v2 Te Sy P, v = .agg #[v0, v1, v2] ∧ Gx W v0 v1 v2 Te Sy P ∧ Gs Te Sy P := by
  obtain ⟨cs, rfl, hsz⟩ := okWide_struct Try.underlying26 hv
  rw [cells26o] at hsz
  match cs, hsz with
  | ⟨[c0, c1, c2]⟩, _ =>
    obtain ⟨fuel, hf⟩ := h
    obtain ⟨y0, y1, y2, n, hx, _, g0, g1, g2⟩ := trod_struct3 Try.underlying26 hf
    have hd : d = .agg [y0.1, y1.1, y2.1] := congrArg Prod.fst hx
    rw [hd] at hB
    have hB0 := b.ag Try.underlying26 hB 0 22 y0.1 rfl rfl
    have hB1 := b.ag Try.underlying26 hB 1 23 y1.1 rfl rfl
    have hB2 := b.ag Try.underlying26 hB 2 24 y2.1 rfl rfl
    simp only [cells22o, cells23o, cells24o] at g0 g1 g2
    have r : reachBytes = 140737488351232 := rfl
    obtain ⟨Te, t1, t2, _, _⟩ := open_flat tdf 2 (by decide) tdf_len tdd (fun _ => True) b (v := c0) Try.underlying22 cells58o (by rw [bytes58o]; decide) hB0 (fun m cs y hy _ => k_tdef hy) g0
    obtain ⟨Sy, s1, s2, _, _⟩ := open_flat sdf 2 (by decide) sdf_len sdd (fun _ => True) b (v := c1) Try.underlying23 cells61o (by rw [bytes61o]; decide) hB1 (fun m cs y hy _ => k_sym hy) g1
    obtain ⟨P, e1, e2, e3, _⟩ := open_flat pf 2 (by decide) pf_len pfd (fun x => Rw W x.2.1 x.2.2.length (flat rf x.2.2) ∧ x.2.2.length * 40 + 4096 ≤ 140737488355328) b (v := c2) Try.underlying24 cells53o (by rw [bytes53o]; decide) hB2 (fun m cs y hy hb => k_prod b hy hb) g2
    rw [bytes58o] at t2
    rw [bytes61o] at s2
    rw [bytes53o] at e2
    obtain ⟨a0, k0, f0⟩ := t1.form
    obtain ⟨a1, k1, f1⟩ := s1.form
    refine ⟨c0, c1, c2, Te, Sy, P, rfl, ⟨t1, s1, ⟨⟨_, _, f0⟩, ⟨_, _, f1⟩, e1, fun x hx => (e3 x hx).1⟩⟩, ⟨by omega, by omega, by omega, fun x hx => (e3 x hx).2⟩⟩
end Go.Proofs.Ytodncbkdlnepjaa
