import Derived.Test.YtnhmdbmcamfbiaaBase
import Derived.BigQuiet
import Derived.Deep.QuietTactic
import Derived.BigRegion
namespace Go.Proofs.Ytnhmdbmcamfbiaa
open Go.RowKit

theorem ta_bb (a : Addr) (w : World) : (Instr.typeAssert (.iface 97 (.pointer (some a))) 69 97 true).run Try.prog w = .ok (.tuple #[.pointer (some a), .bool true]) w := by kernel_rfl
theorem ta_ll (s : ByteArray) (w : World) : (Instr.typeAssert (.iface 95 (.string s)) 69 95 true).run Try.prog w = .ok (.tuple #[.string s, .bool true]) w := by kernel_rfl
theorem ta_lb (a : Addr) (w : World) : (Instr.typeAssert (.iface 97 (.pointer (some a))) 69 95 true).run Try.prog w = .ok (.tuple #[.string ⟨#[]⟩, .bool false]) w := by kernel_rfl

set_option maxRecDepth 100000 in
set_option maxHeartbeats 400000 in
theorem parts_any (b : Nat) (vl vr : Value) (w : World) (h0 : w.cell? ⟨b, 0, none⟩ = some vl) (h1 : w.cell? ⟨b, 1, none⟩ = some vr) :
    Calls Try.prog 43 #[.iface 97 (.pointer (some ⟨b, 0, none⟩))] w fun e w' => e = .returned (.tuple #[vl, vr]) ∧ Below w.heap.size w w' := by
  have hta := ta_bb ⟨b, 0, none⟩
  go_enter Try.func43, Try.ntmps43
  go_wp2
  go_region
  all_goals
    go_wp2
    go_ret2
    exact ⟨rfl, by repeat (first | exact Below.refl _ _ | refine Below.drew ?_)⟩
end Go.Proofs.Ytnhmdbmcamfbiaa
