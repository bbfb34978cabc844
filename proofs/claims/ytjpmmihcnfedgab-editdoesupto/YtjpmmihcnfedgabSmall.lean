import Derived.Test.YtjpmmihcnfedgabBase
import Derived.Test.YtjpmmihcnfedgabShelf
import Derived.Deep.RegionHeld3
namespace Go.Proofs.Ytjpmmihcnfedgab
open Go.RowKit

set_option maxRecDepth 100000 in
theorem right_any (n : Int) (w : World) : Calls Try.prog 21 #[.int .i64 n] w fun e w' => e = .returned (.bool (decide (0 ≤ n ∧ n ≤ 1048576))) ∧ w = w' := by
  by_cases h0 : 0 ≤ n
  · go_enter Try.func21, Try.ntmps21
    go_wp2_with fail
    go_ret
    refine ⟨?_, rfl⟩
    simp [h0]
  · go_enter Try.func21, Try.ntmps21
    go_wp2_with fail
    go_ret
    refine ⟨?_, rfl⟩
    simp
    omega

set_option maxRecDepth 100000 in
theorem clamp_any (n m : Int) (h : 0 ≤ m) (w : World) : Calls Try.prog 26 #[.int .i64 n, .int .i64 m] w fun e w' => e = .returned (.int .i64 (cl n m)) ∧ w = w' := by
  go_enter Try.func26, Try.ntmps26
  go_wp2_with fail
  go_ret
  refine ⟨ret_int ?_, rfl⟩
  unfold cl
  (repeat' split) <;> omega

end Go.Proofs.Ytjpmmihcnfedgab
