import Derived.Test.YtockmlaaefbfkaaKee
import Derived.Test.YtockmlaaefbfkaaShl
namespace Go.Proofs.Ytockmlaaefbfkaa
open Go.RowKit Go.Maps

set_option maxRecDepth 100000 in
theorem clone_any (s : ByteArray) (w : World) (h : s.size ≤ 140737488355328) : Calls Try.prog 19 #[.string s] w fun e w' => e = .returned (.string s) ∧ Below w.heap.size w w' := by
  go_enter Try.func19, Try.ntmps19
  go_wp2_with (go_at_call 32; refine (Try.stringslite_Clone s w (by omega)).mono ?_; rintro ee w1 ⟨rfl, hb1⟩; have HB1 : Hid (Below w.heap.size w w1) := hb1; clear hb1)
  go_ret
  exact ⟨rfl, HB1.out⟩
set_option maxRecDepth 100000 in
theorem small_any (z : Int) (w : World) : Calls Try.prog 29 #[.int .i64 z] w fun e w' => e = .returned (.bool (sml z)) ∧ w = w' := by
  by_cases h0 : 0 ≤ z
  · have e1 : decide ((0 : Int) ≤ z) = true := by rw [decide_eq_true_eq]; exact h0
    have HE : Hid (sml z = decide (z ≤ 1048577)) := by show _ = _; unfold sml; rw [e1]; rfl
    rw [HE.out]
    clear h0 HE
    go_enter Try.func29, Try.ntmps29
    go_wp2_with fail
    go_ret
    exact ⟨rfl, rfl⟩
  · have e1 : decide ((0 : Int) ≤ z) = false := by rw [decide_eq_false_iff_not]; exact h0
    have HE : Hid (sml z = false) := by show _ = _; unfold sml; rw [e1]; rfl
    rw [HE.out]
    clear h0 HE
    go_enter Try.func29, Try.ntmps29
    go_wp2_with fail
    go_ret
    exact ⟨rfl, rfl⟩
/-- Is the number of a text's bytes right? -/
def ert (z : Int) : Bool := decide (0 ≤ z) && decide (z ≤ 1048576)
set_option maxRecDepth 100000 in
theorem eright_any (z : Int) (w : World) : Calls Try.prog 30 #[.int .i64 z] w fun e w' => e = .returned (.bool (ert z)) ∧ w = w' := by
  by_cases h0 : 0 ≤ z
  · have e1 : decide ((0 : Int) ≤ z) = true := by rw [decide_eq_true_eq]; exact h0
    have HE : Hid (ert z = decide (z ≤ 1048576)) := by show _ = _; unfold ert; rw [e1]; rfl
    rw [HE.out]
    clear h0 HE
    go_enter Try.func30, Try.ntmps30
    go_wp2_with fail
    go_ret
    exact ⟨rfl, rfl⟩
  · have e1 : decide ((0 : Int) ≤ z) = false := by rw [decide_eq_false_iff_not]; exact h0
    have HE : Hid (ert z = false) := by show _ = _; unfold ert; rw [e1]; rfl
    rw [HE.out]
    clear h0 HE
    go_enter Try.func30, Try.ntmps30
    go_wp2_with fail
    go_ret
    exact ⟨rfl, rfl⟩
/-- A number clamped. -/
def clm (z m : Int) : Int := min (max z 0) m
set_option maxRecDepth 100000 in
theorem eclamp_any (z m : Int) (w : World) : Calls Try.prog 40 #[.int .i64 z, .int .i64 m] w fun e w' => e = .returned (.int .i64 (clm z m)) ∧ w = w' := by
  go_enter Try.func40, Try.ntmps40
  go_wp2_with fail
  go_ret
  exact ⟨rfl, rfl⟩
end Go.Proofs.Ytockmlaaefbfkaa
