import Derived.Test.YtcfmpmhdjkchjaaTnp
import Derived.Test.YtcfmpmhdjkchjaaTst
namespace Go.Proofs.Ytcfmpmhdjkchjaa
open Go.RowKit Go.Maps

/-- A region of a body. -/
def rgn (n : Nat) : Code → Option Code
  | .region k os d => bif Nat.beq k n then some (.region k os d) else none
  | .seq a b => (rgn n a).or (rgn n b)
  | .cond _ a b => (rgn n a).or (rgn n b)
  | .block _ c => rgn n c
  | .loop c => rgn n c
  | _ => none
noncomputable def cR18 : Code := (Try.f26.body.bind (rgn 18)).getD .skip
end Go.Proofs.Ytcfmpmhdjkchjaa
