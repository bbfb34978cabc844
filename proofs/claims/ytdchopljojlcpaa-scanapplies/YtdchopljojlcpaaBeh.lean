import Derived.Test.YtdchopljojlcpaaProg
import Derived.Test.YtdchopljojlcpaaShelf
import Derived.Test.YtdchopljojlcpaaCop
namespace Go.Proofs.Ytdchopljojlcpaa
open Go.RowKit

set_option maxHeartbeats 1000000 in
theorem flag_any (n : Int) (w : World) : Calls Try.prog 37 #[.int .i64 n] w fun e w' => e = .returned (.bool (decide (0 ≤ n) && decide (n < 16))) ∧ w' = w := by
  by_cases c0 : 0 ≤ n
  · have d0 : decide (0 ≤ n) = true := by simpa using c0
    rw [d0]
    go_enter Try.func37, Try.ntmps37
    go_wp2_with fail
    go_ret
    exact ⟨rfl, rfl⟩
  · have d0 : decide (0 ≤ n) = false := by simpa using c0
    rw [d0]
    go_enter Try.func37, Try.ntmps37
    go_wp2_with fail
    go_ret
    exact ⟨rfl, rfl⟩
end Go.Proofs.Ytdchopljojlcpaa
