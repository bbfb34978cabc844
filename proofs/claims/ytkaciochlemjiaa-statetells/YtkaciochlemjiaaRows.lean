/-
  No cell of these rows narrows 'for every input' (looked for: loops, veiled, ifaces, maps, wideKeys, modest, calm, conditions, laid).
  DERIVED. THE GIVEN ROWS OF THIS SEAT. 6 by the template 'for every input the law returns true; each argument reads behind the call as it read before'; 0 by the template 'total and deterministic' (their statements: YtkaciochlemjiaaTotals.lean).
  GIVEN WITH THE SEED: the statements are not yours to turn. If you find one false, say at which input.
  Laid BY PROGRAM, IN A SANDBOX (cutbox-rows.mjs): the forced cells as the released guide's own fill.sh prints them over the translation 6d501ce354c0b05a… (all of the seat's roots in one cut). By AI agents, Wed Nov 11 2026. No macro, syntax, notation, axiom, sorry.
-/
import Derived.Test.YtkaciochlemjiaaChecked
import GoSem.Claim
import GoSem.ClaimJoined
import GoSem.ClaimMapViews
import Derived.JoinedTies
import Derived.KernelRfl
namespace Go.Proofs.Ytkaciochlemjiaa
/- THE CELL 'sum', in the pinned program and in every row, IS THE sha256 OF THE DUMP (.gsa) THAT YtkaciochlemjiaaProg.lean LOADS. Nothing in Lean hashes anything: it is a label: what it is worth is what the hold of that sum in a sandbox is worth. -/
noncomputable def Try.pinned : Pinned := { name := "ytkaciochlemjiaa", sum := "6d501ce354c0b05abd9040536637495c513ffaced69e2a0b47777307d3bcc267", checked := Try.checked }
namespace Rows
def none {H : Type} : Left H := { results := [], args := [] }

/-- 'trellislaw6.StateWrites': WHATEVER THE INPUT: true; the input reads as it did. -/
def stateWritesSpec : ChangeSpec := { name := "stateWrites", fn := fun _ => fun
  | [d1, d2] => { results := [.lit (.bool true)], args := [d1, d2] }
  | _ => none }
def stateWritesRow : OpenClaim := { program := "ytkaciochlemjiaa", sum := "6d501ce354c0b05abd9040536637495c513ffaced69e2a0b47777307d3bcc267", func := "trellis/trellislaw6.StateWrites", spec := "stateWrites", inPlace := ["internal/bytealg.IndexByteString"], unfollowed := true, recurses := true, apart := false }
def StateWritesSaid : Prop := stateWritesRow.holds Try.pinned (OpenSpec.ofChange stateWritesSpec)

/-- ITS FALSE NEIGHBOUR: 'it returns false'. Refute it at one input. -/
def stateWritesWrong : ChangeSpec := { name := "stateWrites", fn := fun _ => fun
  | [d1, d2] => { results := [.lit (.bool false)], args := [d1, d2] }
  | _ => none }
def StateWritesWrongFalsely : Prop := stateWritesRow.holds Try.pinned (OpenSpec.ofChange stateWritesWrong)

/-- 'trellislaw6.StateTells': WHATEVER THE INPUT: true; the input reads as it did. -/
def stateTellsSpec : ChangeSpec := { name := "stateTells", fn := fun _ => fun
  | [d1, d2, d3, d4] => { results := [.lit (.bool true)], args := [d1, d2, d3, d4] }
  | _ => none }
def stateTellsRow : OpenClaim := { program := "ytkaciochlemjiaa", sum := "6d501ce354c0b05abd9040536637495c513ffaced69e2a0b47777307d3bcc267", func := "trellis/trellislaw6.StateTells", spec := "stateTells", inPlace := ["internal/bytealg.IndexByteString"], recurses := true, apart := false }
def StateTellsSaid : Prop := stateTellsRow.holds Try.pinned (OpenSpec.ofChange stateTellsSpec)

/-- ITS FALSE NEIGHBOUR: 'it returns false'. Refute it at one input. -/
def stateTellsWrong : ChangeSpec := { name := "stateTells", fn := fun _ => fun
  | [d1, d2, d3, d4] => { results := [.lit (.bool false)], args := [d1, d2, d3, d4] }
  | _ => none }
def StateTellsWrongFalsely : Prop := stateTellsRow.holds Try.pinned (OpenSpec.ofChange stateTellsWrong)

/-- 'trellislaw6.StateBack': WHATEVER THE INPUT: true; the input reads as it did. -/
def stateBackSpec : ChangeSpec := { name := "stateBack", fn := fun _ => fun
  | [d1, d2, d3] => { results := [.lit (.bool true)], args := [d1, d2, d3] }
  | _ => none }
def stateBackRow : OpenClaim := { program := "ytkaciochlemjiaa", sum := "6d501ce354c0b05abd9040536637495c513ffaced69e2a0b47777307d3bcc267", func := "trellis/trellislaw6.StateBack", spec := "stateBack", inPlace := ["internal/bytealg.IndexByteString"], unfollowed := true, recurses := true, apart := false }
def StateBackSaid : Prop := stateBackRow.holds Try.pinned (OpenSpec.ofChange stateBackSpec)

/-- ITS FALSE NEIGHBOUR: 'it returns false'. Refute it at one input. -/
def stateBackWrong : ChangeSpec := { name := "stateBack", fn := fun _ => fun
  | [d1, d2, d3] => { results := [.lit (.bool false)], args := [d1, d2, d3] }
  | _ => none }
def StateBackWrongFalsely : Prop := stateBackRow.holds Try.pinned (OpenSpec.ofChange stateBackWrong)

/-- 'trellislaw6.StateShaped': WHATEVER THE INPUT: true; the input reads as it did. -/
def stateShapedSpec : ChangeSpec := { name := "stateShaped", fn := fun _ => fun
  | [d1, d2, d3] => { results := [.lit (.bool true)], args := [d1, d2, d3] }
  | _ => none }
def stateShapedRow : OpenClaim := { program := "ytkaciochlemjiaa", sum := "6d501ce354c0b05abd9040536637495c513ffaced69e2a0b47777307d3bcc267", func := "trellis/trellislaw6.StateShaped", spec := "stateShaped", inPlace := ["internal/bytealg.IndexByteString"], unfollowed := true, recurses := true, apart := false }
def StateShapedSaid : Prop := stateShapedRow.holds Try.pinned (OpenSpec.ofChange stateShapedSpec)

/-- ITS FALSE NEIGHBOUR: 'it returns false'. Refute it at one input. -/
def stateShapedWrong : ChangeSpec := { name := "stateShaped", fn := fun _ => fun
  | [d1, d2, d3] => { results := [.lit (.bool false)], args := [d1, d2, d3] }
  | _ => none }
def StateShapedWrongFalsely : Prop := stateShapedRow.holds Try.pinned (OpenSpec.ofChange stateShapedWrong)

/-- 'trellislaw6.StateLayout': WHATEVER THE INPUT: true; the input reads as it did. -/
def stateLayoutSpec : ChangeSpec := { name := "stateLayout", fn := fun _ => fun
  | [d1, d2] => { results := [.lit (.bool true)], args := [d1, d2] }
  | _ => none }
def stateLayoutRow : OpenClaim := { program := "ytkaciochlemjiaa", sum := "6d501ce354c0b05abd9040536637495c513ffaced69e2a0b47777307d3bcc267", func := "trellis/trellislaw6.StateLayout", spec := "stateLayout", inPlace := ["internal/bytealg.IndexByteString"], unfollowed := true, recurses := true, apart := false }
def StateLayoutSaid : Prop := stateLayoutRow.holds Try.pinned (OpenSpec.ofChange stateLayoutSpec)

/-- ITS FALSE NEIGHBOUR: 'it returns false'. Refute it at one input. -/
def stateLayoutWrong : ChangeSpec := { name := "stateLayout", fn := fun _ => fun
  | [d1, d2] => { results := [.lit (.bool false)], args := [d1, d2] }
  | _ => none }
def StateLayoutWrongFalsely : Prop := stateLayoutRow.holds Try.pinned (OpenSpec.ofChange stateLayoutWrong)

/-- 'trellislaw6.StatePairs': WHATEVER THE INPUT: true; the input reads as it did. -/
def statePairsSpec : ChangeSpec := { name := "statePairs", fn := fun _ => fun
  | [d1, d2, d3] => { results := [.lit (.bool true)], args := [d1, d2, d3] }
  | _ => none }
def statePairsRow : OpenClaim := { program := "ytkaciochlemjiaa", sum := "6d501ce354c0b05abd9040536637495c513ffaced69e2a0b47777307d3bcc267", func := "trellis/trellislaw6.StatePairs", spec := "statePairs", inPlace := ["internal/bytealg.IndexByteString"], unfollowed := true, recurses := true, apart := false }
def StatePairsSaid : Prop := statePairsRow.holds Try.pinned (OpenSpec.ofChange statePairsSpec)

/-- ITS FALSE NEIGHBOUR: 'it returns false'. Refute it at one input. -/
def statePairsWrong : ChangeSpec := { name := "statePairs", fn := fun _ => fun
  | [d1, d2, d3] => { results := [.lit (.bool false)], args := [d1, d2, d3] }
  | _ => none }
def StatePairsWrongFalsely : Prop := statePairsRow.holds Try.pinned (OpenSpec.ofChange statePairsWrong)

/- THE SECOND FORM. 'bulk': how many values and letters a reading holds, each counted each time it is reached (what is shared counts as often as it is met; a slice's spare places count too). A statement '..UptoSaid' is the law's where the arguments, and the package variables that the reading takes, are together of bulk at most 1048576: NARROWER than '..Said'. Prove '..Said' where nothing that the law and all that it calls make is longer than what came in: it says more and counts as full. Else prove '..UptoSaid'. A law counts once. -/
mutual
def uptoBulk {H : Type} : DataW H → Nat
  | .lit (.string bytes) => bytes.length + 1
  | .lit _ => 1
  | .nil => 1
  | .ptr d => uptoBulk d + 1
  | .slice elems spare => uptoBulkAll elems + uptoBulkAll spare + 1
  | .agg parts => uptoBulkAll parts + 1
  | .iface _ d => uptoBulk d + 1
  | .map entries => uptoBulkEntries entries + 1
  | .held _ => 1
def uptoBulkAll {H : Type} : List (DataW H) → Nat
  | [] => 0
  | d :: r => uptoBulk d + uptoBulkAll r
def uptoBulkEntries {H : Type} : List (Lit × DataW H) → Nat
  | [] => 0
  | x :: r => uptoBulkEntry x + uptoBulkEntries r
def uptoBulkEntry {H : Type} : Lit × DataW H → Nat
  | (.string bytes, d) => bytes.length + uptoBulk d + 1
  | (_, d) => uptoBulk d + 1
 end
def uptoSmall : (H : Type) → List (DataW H) → Bool := fun _ ds => decide (uptoBulkAll ds ≤ 1048576)
def OpenSpec.upto (s : _root_.Go.ChangeSpec) : _root_.Go.OpenSpec := { _root_.Go.OpenSpec.ofChange s with cond := some uptoSmall }

/-- 'trellislaw6.StateWrites', WHERE WHAT IT READS IS OF BULK AT MOST 1048576: true; the input reads as it did. -/
def stateWritesUptoRow : OpenClaim := { program := "ytkaciochlemjiaa", sum := "6d501ce354c0b05abd9040536637495c513ffaced69e2a0b47777307d3bcc267", func := "trellis/trellislaw6.StateWrites", spec := "stateWrites", inPlace := ["internal/bytealg.IndexByteString"], unfollowed := true, recurses := true, apart := false, narrowed := true }
def StateWritesUptoSaid : Prop := stateWritesUptoRow.holds Try.pinned (OpenSpec.upto stateWritesSpec)

/-- 'trellislaw6.StateTells', WHERE WHAT IT READS IS OF BULK AT MOST 1048576: true; the input reads as it did. -/
def stateTellsUptoRow : OpenClaim := { program := "ytkaciochlemjiaa", sum := "6d501ce354c0b05abd9040536637495c513ffaced69e2a0b47777307d3bcc267", func := "trellis/trellislaw6.StateTells", spec := "stateTells", inPlace := ["internal/bytealg.IndexByteString"], recurses := true, apart := false, narrowed := true }
def StateTellsUptoSaid : Prop := stateTellsUptoRow.holds Try.pinned (OpenSpec.upto stateTellsSpec)

/-- 'trellislaw6.StateBack', WHERE WHAT IT READS IS OF BULK AT MOST 1048576: true; the input reads as it did. -/
def stateBackUptoRow : OpenClaim := { program := "ytkaciochlemjiaa", sum := "6d501ce354c0b05abd9040536637495c513ffaced69e2a0b47777307d3bcc267", func := "trellis/trellislaw6.StateBack", spec := "stateBack", inPlace := ["internal/bytealg.IndexByteString"], unfollowed := true, recurses := true, apart := false, narrowed := true }
def StateBackUptoSaid : Prop := stateBackUptoRow.holds Try.pinned (OpenSpec.upto stateBackSpec)

/-- 'trellislaw6.StateShaped', WHERE WHAT IT READS IS OF BULK AT MOST 1048576: true; the input reads as it did. -/
def stateShapedUptoRow : OpenClaim := { program := "ytkaciochlemjiaa", sum := "6d501ce354c0b05abd9040536637495c513ffaced69e2a0b47777307d3bcc267", func := "trellis/trellislaw6.StateShaped", spec := "stateShaped", inPlace := ["internal/bytealg.IndexByteString"], unfollowed := true, recurses := true, apart := false, narrowed := true }
def StateShapedUptoSaid : Prop := stateShapedUptoRow.holds Try.pinned (OpenSpec.upto stateShapedSpec)

/-- 'trellislaw6.StateLayout', WHERE WHAT IT READS IS OF BULK AT MOST 1048576: true; the input reads as it did. -/
def stateLayoutUptoRow : OpenClaim := { program := "ytkaciochlemjiaa", sum := "6d501ce354c0b05abd9040536637495c513ffaced69e2a0b47777307d3bcc267", func := "trellis/trellislaw6.StateLayout", spec := "stateLayout", inPlace := ["internal/bytealg.IndexByteString"], unfollowed := true, recurses := true, apart := false, narrowed := true }
def StateLayoutUptoSaid : Prop := stateLayoutUptoRow.holds Try.pinned (OpenSpec.upto stateLayoutSpec)

/-- 'trellislaw6.StatePairs', WHERE WHAT IT READS IS OF BULK AT MOST 1048576: true; the input reads as it did. -/
def statePairsUptoRow : OpenClaim := { program := "ytkaciochlemjiaa", sum := "6d501ce354c0b05abd9040536637495c513ffaced69e2a0b47777307d3bcc267", func := "trellis/trellislaw6.StatePairs", spec := "statePairs", inPlace := ["internal/bytealg.IndexByteString"], unfollowed := true, recurses := true, apart := false, narrowed := true }
def StatePairsUptoSaid : Prop := statePairsUptoRow.holds Try.pinned (OpenSpec.upto statePairsSpec)

end Rows
end Go.Proofs.Ytkaciochlemjiaa
