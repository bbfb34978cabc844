import Derived.Test.YtkjcnnecdclgfaaDoorRef
namespace Go.Proofs.YtkjcnnecdclgfaaDoor
open Go.RowKit
theorem st_size (l : List UInt8) : (ByteArray.mk l.toArray).size = l.length := by simp [ByteArray.size]
end Go.Proofs.YtkjcnnecdclgfaaDoor
