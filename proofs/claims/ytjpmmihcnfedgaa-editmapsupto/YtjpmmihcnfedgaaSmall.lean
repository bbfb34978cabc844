import Derived.Test.YtjpmmihcnfedgaaBase
import Derived.Test.YtjpmmihcnfedgaaShelf
import Derived.Deep.RegionHeld3
namespace Go.Proofs.Ytjpmmihcnfedgaa
open Go.RowKit

set_option maxRecDepth 100000 in
theorem right_any (n : Int) (w : World) : Calls Try.prog 20 #[.int .i64 n] w fun e w' => e = .returned (.bool (decide (0 ≤ n ∧ n ≤ 1048576))) ∧ w = w' := by
  by_cases h0 : 0 ≤ n
  · go_enter Try.func20, Try.ntmps20
    go_wp2_with fail
    go_ret
    refine ⟨?_, rfl⟩
    simp [h0]
  · go_enter Try.func20, Try.ntmps20
    go_wp2_with fail
    go_ret
    refine ⟨?_, rfl⟩
    simp
    omega

set_option maxRecDepth 100000 in
theorem clamp_any (n m : Int) (h : 0 ≤ m) (w : World) : Calls Try.prog 28 #[.int .i64 n, .int .i64 m] w fun e w' => e = .returned (.int .i64 (cl n m)) ∧ w = w' := by
  go_enter Try.func28, Try.ntmps28
  go_wp2_with fail
  go_ret
  refine ⟨ret_int ?_, rfl⟩
  unfold cl
  (repeat' split) <;> omega

set_option maxRecDepth 100000 in
theorem move_any (p a d c : Int) (w : World) (ha : 0 ≤ a ∧ a ≤ 1099511627776) (hd : 0 ≤ d ∧ d ≤ 140737488355328) (hc : 0 ≤ c ∧ c ≤ 140737488355328) (hp : p ≤ 1152921504606846976) :
    Calls Try.prog 23 #[.int .i64 p, .int .i64 a, .int .i64 d, .int .i64 c] w fun e w' => e = .returned (.tuple #[.int .i64 (mvv p a d c), .bool (mvb p a d)]) ∧ w = w' := by
  by_cases h1 : p < a
  · have e1 : mvv p a d c = p := by unfold mvv; rw [if_pos h1]
    have e2 : mvb p a d = true := by unfold mvb; rw [if_pos h1]
    rw [e1, e2]
    clear e1 e2
    go_enter Try.func23, Try.ntmps23
    go_wp2_with fail
    go_ret2
    exact ⟨rfl, rfl⟩
  · by_cases h2 : p < a + d
    · have e1 : mvv p a d c = 0 := by unfold mvv; rw [if_neg h1, if_pos h2]
      have e2 : mvb p a d = false := by unfold mvb; rw [if_neg h1, if_pos h2]
      rw [e1, e2]
      clear e1 e2
      go_enter Try.func23, Try.ntmps23
      go_wp2_with fail
      go_ret2
      exact ⟨rfl, rfl⟩
    · have e1 : mvv p a d c = p - d + c := by unfold mvv; rw [if_neg h1, if_neg h2]
      have e2 : mvb p a d = true := by unfold mvb; rw [if_neg h1, if_neg h2]
      rw [e1, e2]
      clear e1 e2
      go_enter Try.func23, Try.ntmps23
      go_wp2_with fail
      go_ret2
      exact ⟨rfl, rfl⟩

end Go.Proofs.Ytjpmmihcnfedgaa
