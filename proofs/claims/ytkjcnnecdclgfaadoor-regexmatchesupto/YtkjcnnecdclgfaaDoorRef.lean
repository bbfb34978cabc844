import Derived.Lib.Strings
import Derived.Test.YtkjcnnecdclgfaaDoorGzx
namespace Go.Proofs.YtkjcnnecdclgfaaDoor
open Go.RowKit
theorem of_toNat (b : Nat) (h : b < 256) : (UInt8.ofNat b).toNat = b := by simp; omega
end Go.Proofs.YtkjcnnecdclgfaaDoor
