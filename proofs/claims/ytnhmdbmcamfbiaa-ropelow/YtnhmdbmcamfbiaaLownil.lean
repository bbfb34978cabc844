import Derived.Test.YtnhmdbmcamfbiaaHelp
import Derived.Deep.LoopGhost
namespace Go.Proofs.Ytnhmdbmcamfbiaa
open Go.RowKit

set_option maxRecDepth 100000 in
set_option maxHeartbeats 1000000 in
theorem low_nil (a : Option Addr) (cap : Nat) (c : Int) (w : World) :
    Calls Try.prog 4 #[.slice a 0 cap, .int .u8 c] w fun e w' => e = .returned (.bool true) ∧ Below w.heap.size w w' := by
  go_enter Try.func4, Try.ntmps4
  go_wp2_with fail
  refine (new_any ⟨#[]⟩ w (by decide)).mono ?_
  rintro e w1 ⟨b, rfl, hr, hb⟩
  have HR : Hid (IsRope w1 b []) := hr
  have B1 : Hid _ := hb
  clear hr hb
  go_wp2_with fail
  refine (len_any b [] _ HR.out).mono ?_
  rintro e w' ⟨rfl, rfl⟩
  go_wp2_with fail
  refine (depth_any b [] _ HR.out).mono ?_
  rintro e w' ⟨d, rfl, d1, d2, rfl⟩
  clear d2
  go_wp2_with fail
  go_loopg [5, 6] 0 (fun _ r i wr => r = .pointer (some ⟨b, 0, none⟩) ∧ i = .int .i64 0 ∧ w1 = wr)
  case atStart => exact ⟨rfl, rfl, rfl⟩
  case round =>
    obtain ⟨rfl, rfl, rfl⟩ := hrel
    go_wp2_with fail
    go_loopg [5, 10] 0 (fun _ r i wr => r = .pointer (some ⟨b, 0, none⟩) ∧ i = .int .i64 0 ∧ w1 = wr)
    case atStart => exact ⟨rfl, rfl, rfl⟩
    case round =>
      obtain ⟨rfl, rfl, rfl⟩ := hrel
      go_wp2_with fail
      refine (len_any b [] _ HR.out).mono ?_
      rintro e w' ⟨rfl, rfl⟩
      go_wp2_with fail
      refine (string_any b [] _ HR.out).mono ?_
      rintro e w2 ⟨rfl, hb2⟩
      have B3 : Hid _ := below_trans B1.out hb2
      clear hb2
      go_wp2_with fail
      go_ret
      exact ⟨rfl, B3.out⟩
end Go.Proofs.Ytnhmdbmcamfbiaa
