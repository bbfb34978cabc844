import Derived.Test.YtodncbkdlnepjaaOpn
import Derived.Test.YtodncbkdlnepjaaFdl
namespace Go.Proofs.Ytodncbkdlnepjaa
open Go.ChangeShapes Go.WideShapes Go.ChangeAt Go.RowKit
open Go.ChangeMaps (open_string shut_string)
open Go.Joins Go.Deep

theorem cells46o : Try.prog.cellsOf 46 = 2 := by kernel_rfl
theorem bytes46o : Try.prog.bytesOf 46 = 16 := by kernel_rfl
theorem cells4o : Try.prog.cellsOf 4 = 1 := by kernel_rfl
theorem bytes4o : Try.prog.bytesOf 4 = 1 := by kernel_rfl
theorem cells29o : Try.prog.cellsOf 29 = 1 := by kernel_rfl
theorem bytes29o : Try.prog.bytesOf 29 = 8 := by kernel_rfl
/-- A truth, a set in memory. -/
def bf (x : Bool) : List Value := [.bool x]
def tf (x : Nat) : List Value := [.int .u64 (x : Int)]
theorem bf_len (x : Bool) : (bf x).length = 1 := rfl
theorem tf_len (x : Nat) : (tf x).length = 1 := rfl
section
variable {H : Type} {enc : TypeId × Value → H} {W : World} {m : Nat} {cs : List Value} {y : DataW H × List MemPlace}
set_option maxRecDepth 100000 in
theorem k_step (h : DataW.trod enc Try.prog W 0 (fun _ => true) true m 46 cs = some y) : ∃ a : Int × Int, cs = stf a ∧ True := by
  obtain ⟨y0, y1, q, _, hl, g0, g1⟩ := trod_struct2 Try.underlying46 h
  rw [cells46o] at hl
  match cs, hl with
  | [z0, z1], _ =>
    simp only [cells3o] at g0 g1
    obtain ⟨x0, f0, _, _⟩ := DataW.trod_int Try.underlying3 g0
    obtain ⟨x1, f1, _, _⟩ := DataW.trod_int Try.underlying3 g1
    simp at f0 f1
    subst f0 f1
    exact ⟨(x0, x1), rfl, trivial⟩
theorem k_bool (h : DataW.trod enc Try.prog W 0 (fun _ => true) true m 4 cs = some y) : ∃ a : Bool, cs = bf a ∧ True := by
  obtain ⟨b, rfl, _⟩ := DataW.trod_bool Try.underlying4 h
  exact ⟨b, rfl, trivial⟩
theorem k_term (h : DataW.trod enc Try.prog W 0 (fun _ => true) true m 29 cs = some y) : ∃ a : Nat, cs = tf a ∧ a < 2 ^ 64 := by
  obtain ⟨x, rfl, _, hw⟩ := DataW.trod_int Try.underlying29 h
  have := u64_range hw
  exact ⟨x.toNat, by unfold tf; rw [Int.toNat_of_nonneg this.1], by omega⟩
end
theorem open_steps {H : Type} (b : Bnd H) {enc : TypeId × Value → H} {W : World} {base : Nat} {v : Value} {d : DataW H} {p : List MemPlace} (hB : b.B 43 d) (hv : Value.okWide Try.prog W .any base 43 v) (h : DataW.Trod enc Try.prog W 0 (fun _ => true) true 43 v d p) :
    ∃ E : List (Int × Int), Rw W v E.length (flat stf E) ∧ E.length ≤ 140737488355328 := by
  obtain ⟨fuel, hf⟩ := h
  obtain ⟨a, l, c, rfl⟩ := okWide_slice Try.underlying43 hv
  obtain ⟨E, h1, h2, _, _⟩ := open_flat stf 2 (by decide) stf_len (0, 0) (fun _ => True) b Try.underlying43 cells46o (by rw [bytes46o]; decide) hB (fun m cs y hy _ => k_step hy) hf
  rw [bytes46o] at h2
  have : reachBytes = 140737488351232 := rfl
  exact ⟨E, h1, by omega⟩
theorem open_bools {H : Type} (b : Bnd H) {enc : TypeId × Value → H} {W : World} {base : Nat} {v : Value} {d : DataW H} {p : List MemPlace} (hB : b.B 37 d) (hv : Value.okWide Try.prog W .any base 37 v) (h : DataW.Trod enc Try.prog W 0 (fun _ => true) true 37 v d p) :
    ∃ E : List Bool, Rw W v E.length (flat bf E) ∧ E.length ≤ 140737488355328 := by
  obtain ⟨fuel, hf⟩ := h
  obtain ⟨a, l, c, rfl⟩ := okWide_slice Try.underlying37 hv
  obtain ⟨E, h1, h2, _, _⟩ := open_flat bf 1 (by decide) bf_len false (fun _ => True) b Try.underlying37 cells4o (by rw [bytes4o]; decide) hB (fun m cs y hy _ => k_bool hy) hf
  rw [bytes4o] at h2
  have : reachBytes = 140737488351232 := rfl
  exact ⟨E, h1, by omega⟩
theorem open_sets {H : Type} (b : Bnd H) {enc : TypeId × Value → H} {W : World} {base : Nat} {v : Value} {d : DataW H} {p : List MemPlace} (hB : b.B 38 d) (hv : Value.okWide Try.prog W .any base 38 v) (h : DataW.Trod enc Try.prog W 0 (fun _ => true) true 38 v d p) :
    ∃ E : List Nat, Rw W v E.length (flat tf E) ∧ E.length ≤ 140737488355328 ∧ ∀ x ∈ E, x < 2 ^ 64 := by
  obtain ⟨fuel, hf⟩ := h
  obtain ⟨a, l, c, rfl⟩ := okWide_slice Try.underlying38 hv
  obtain ⟨E, h1, h2, h3, _⟩ := open_flat tf 1 (by decide) tf_len 0 (fun x => x < 2 ^ 64) b Try.underlying38 cells29o (by rw [bytes29o]; decide) hB (fun m cs y hy _ => k_term hy) hf
  rw [bytes29o] at h2
  have : reachBytes = 140737488351232 := rfl
  exact ⟨E, h1, by omega, h3⟩
end Go.Proofs.Ytodncbkdlnepjaa
