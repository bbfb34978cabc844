import Derived.Test.YtkaciochlemjiabShq
namespace Go.Proofs.Ytkaciochlemjiab
open Go.RowKit

set_option maxRecDepth 100000 in
set_option maxHeartbeats 4000000 in
theorem behind_any (m : ByteArray) (n : Nat) (w : World) :
    Calls Try.prog 63 #[.string m, .int .i64 (n : Int)] w fun e w' => e = .returned (.string (beh m n)) ∧ w' = w := by
  unfold beh
  go_enter Try.func63, Try.ntmps63
  have e : (min (n : Int) (m.size : Int)).toNat = min n m.size := by omega
  have HE : Hid _ := e
  clear e
  go_wp2_with fail
  go_ret
  refine ⟨?_, rfl⟩
  show Ending.returned (.string (m.extract (min (n : Int) (m.size : Int)).toNat m.size)) = _
  rw [HE.out]

set_option maxHeartbeats 1000000 in
theorem flag_any (n : Int) (w : World) : Calls Try.prog 65 #[.int .i64 n] w fun e w' => e = .returned (.bool (decide (0 ≤ n) && decide (n < 16))) ∧ w' = w := by
  by_cases c0 : 0 ≤ n
  · have d0 : decide (0 ≤ n) = true := by simpa using c0
    rw [d0]
    go_enter Try.func65, Try.ntmps65
    go_wp2_with fail
    go_ret
    exact ⟨rfl, rfl⟩
  · have d0 : decide (0 ≤ n) = false := by simpa using c0
    rw [d0]
    go_enter Try.func65, Try.ntmps65
    go_wp2_with fail
    go_ret
    exact ⟨rfl, rfl⟩
end Go.Proofs.Ytkaciochlemjiab
