import Derived.Test.YthfijmabagjdkaaCuj
import Derived.Test.YthfijmabagjdkaaQpu
namespace Go.Proofs.Ythfijmabagjdkaa.Qy
open Go.RowKit Go.Maps

def rs0 (s : ByteArray) (ws : List Wd) : Rs := ⟨ws ++ [⟨0, [], 0, (s.size : Int)⟩], [], [], 0⟩
/-- What Parse answers: nodes, conditions, the error, its place. -/
def psr (s : ByteArray) : List Pn × List Cd × Int × Int := match cutR s with
  | .inl (c, o) => ([], [], (c : Int), (o : Int))
  | .inr ws => if (rdA (rs0 s ws)).1 then ((rdA (rs0 s ws)).2.ns, (rdA (rs0 s ws)).2.cs, 0, 0) else ([], [], (rdA (rs0 s ws)).2.co, (hd (rdA (rs0 s ws)).2).a)
end Go.Proofs.Ythfijmabagjdkaa.Qy
