import Derived.Test.YtkjcnnecdclgfabDoorRef
namespace Go.Proofs.YtkjcnnecdclgfabDoor
open Go.RowKit
theorem st_size (l : List UInt8) : (ByteArray.mk l.toArray).size = l.length := by simp [ByteArray.size]
end Go.Proofs.YtkjcnnecdclgfabDoor
