import Derived.Test.YtkaciochlemjiaaGop
import Derived.Test.YtkaciochlemjiaaHld
namespace Go.Proofs.Ytkaciochlemjiaa
open Go.ChangeShapes Go.WideShapes Go.ChangeAt Go.RowKit
open Go.Joins Go.Deep

theorem cells38 : Try.prog.cellsOf 38 = 2 := by kernel_rfl
theorem cells36 : Try.prog.cellsOf 36 = 1 := by kernel_rfl
set_option maxRecDepth 100000 in
/-- A test that came in. -/
theorem open_test {H : Type} {enc : TypeId × Value → H} {W : World} {base : Nat} {v : Value} {d : DataW H} {p : List MemPlace} (hv : Value.okWide Try.prog W .any base 38 v) (h : DataW.Trod enc Try.prog W 0 (fun _ => true) true 38 v d p) : ∃ k n, v = tv k n := by
  obtain ⟨cs, rfl, hsz⟩ := okWide_struct Try.underlying38 hv
  rw [cells38] at hsz
  match cs, hsz with
  | ⟨[c0, c1]⟩, _ =>
    obtain ⟨fuel, hf⟩ := h
    obtain ⟨y0, y1, q, _, hl2, g0, g1⟩ := trod_struct2 Try.underlying38 hf
    simp only [cells36, cells3] at g0 g1
    obtain ⟨x0, f0, _, _⟩ := DataW.trod_int Try.underlying36 g0
    obtain ⟨x1, f1, _, _⟩ := DataW.trod_int Try.underlying3 g1
    have v0 : c0 = .int .i64 x0 := (List.cons.inj (show [c0] = [Value.int .i64 x0] from f0)).1
    have v1 : c1 = .int .i64 x1 := (List.cons.inj (show [c1] = [Value.int .i64 x1] from f1)).1
    subst v0 v1
    exact ⟨x0, x1, rfl⟩
end Go.Proofs.Ytkaciochlemjiaa
