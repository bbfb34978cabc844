/-
  No cell of these rows narrows 'for every input' (looked for: loops, veiled, ifaces, maps, wideKeys, modest, calm, conditions, laid).
  DERIVED. THE GIVEN ROWS OF THIS SEAT. 3 by the template 'for every input the law returns true; each argument reads behind the call as it read before'; 0 by the template 'total and deterministic' (their statements: YtbkhhegmmkcbbaaTotals.lean).
  GIVEN WITH THE SEED: the statements are not yours to turn. If you find one false, say at which input.
  Laid BY PROGRAM, IN A SANDBOX (cutbox-rows.mjs): the forced cells as the released guide's own fill.sh prints them over the translation f823a9cf7db60b62… (all of the seat's roots in one cut). By AI agents, Wed Nov 11 2026. No macro, syntax, notation, axiom, sorry.
-/
import Derived.Test.YtbkhhegmmkcbbaaChecked
import GoSem.Claim
import GoSem.ClaimJoined
import GoSem.ClaimMapViews
import Derived.JoinedTies
import Derived.KernelRfl
namespace Go.Proofs.Ytbkhhegmmkcbbaa
/- THE CELL 'sum', in the pinned program and in every row, IS THE sha256 OF THE DUMP (.gsa) THAT YtbkhhegmmkcbbaaProg.lean LOADS. Nothing in Lean hashes anything: it is a label: what it is worth is what the hold of that sum in a sandbox is worth. -/
noncomputable def Try.pinned : Pinned := { name := "ytbkhhegmmkcbbaa", sum := "f823a9cf7db60b624e439c7e0fb7589c9da4eb7ed9054ff6440190f7d866891d", checked := Try.checked }
namespace Rows
def none {H : Type} : Left H := { results := [], args := [] }

/-- 'trellislaw21.PaintTiles': WHATEVER THE INPUT: true; the input reads as it did. -/
def paintTilesSpec : ChangeSpec := { name := "paintTiles", fn := fun _ => fun
  | [d1, d2] => { results := [.lit (.bool true)], args := [d1, d2] }
  | _ => none }
def paintTilesRow : OpenClaim := { program := "ytbkhhegmmkcbbaa", sum := "f823a9cf7db60b624e439c7e0fb7589c9da4eb7ed9054ff6440190f7d866891d", func := "trellis/trellislaw21.PaintTiles", spec := "paintTiles", recurses := true, apart := false }
def PaintTilesSaid : Prop := paintTilesRow.holds Try.pinned (OpenSpec.ofChange paintTilesSpec)

/-- ITS FALSE NEIGHBOUR: 'it returns false'. Refute it at one input. -/
def paintTilesWrong : ChangeSpec := { name := "paintTiles", fn := fun _ => fun
  | [d1, d2] => { results := [.lit (.bool false)], args := [d1, d2] }
  | _ => none }
def PaintTilesWrongFalsely : Prop := paintTilesRow.holds Try.pinned (OpenSpec.ofChange paintTilesWrong)

/-- 'trellislaw21.PaintSpares': WHATEVER THE INPUT: true; the input reads as it did. -/
def paintSparesSpec : ChangeSpec := { name := "paintSpares", fn := fun _ => fun
  | [d1, d2] => { results := [.lit (.bool true)], args := [d1, d2] }
  | _ => none }
def paintSparesRow : OpenClaim := { program := "ytbkhhegmmkcbbaa", sum := "f823a9cf7db60b624e439c7e0fb7589c9da4eb7ed9054ff6440190f7d866891d", func := "trellis/trellislaw21.PaintSpares", spec := "paintSpares", recurses := true, apart := false }
def PaintSparesSaid : Prop := paintSparesRow.holds Try.pinned (OpenSpec.ofChange paintSparesSpec)

/-- ITS FALSE NEIGHBOUR: 'it returns false'. Refute it at one input. -/
def paintSparesWrong : ChangeSpec := { name := "paintSpares", fn := fun _ => fun
  | [d1, d2] => { results := [.lit (.bool false)], args := [d1, d2] }
  | _ => none }
def PaintSparesWrongFalsely : Prop := paintSparesRow.holds Try.pinned (OpenSpec.ofChange paintSparesWrong)

/-- 'trellislaw21.PaintSpans': WHATEVER THE INPUT: true; the input reads as it did. -/
def paintSpansSpec : ChangeSpec := { name := "paintSpans", fn := fun _ => fun
  | [d1, d2] => { results := [.lit (.bool true)], args := [d1, d2] }
  | _ => none }
def paintSpansRow : OpenClaim := { program := "ytbkhhegmmkcbbaa", sum := "f823a9cf7db60b624e439c7e0fb7589c9da4eb7ed9054ff6440190f7d866891d", func := "trellis/trellislaw21.PaintSpans", spec := "paintSpans", recurses := true, apart := false }
def PaintSpansSaid : Prop := paintSpansRow.holds Try.pinned (OpenSpec.ofChange paintSpansSpec)

/-- ITS FALSE NEIGHBOUR: 'it returns false'. Refute it at one input. -/
def paintSpansWrong : ChangeSpec := { name := "paintSpans", fn := fun _ => fun
  | [d1, d2] => { results := [.lit (.bool false)], args := [d1, d2] }
  | _ => none }
def PaintSpansWrongFalsely : Prop := paintSpansRow.holds Try.pinned (OpenSpec.ofChange paintSpansWrong)

/- THE SECOND FORM. 'bulk': how many values and letters a reading holds, each counted each time it is reached (what is shared counts as often as it is met; a slice's spare places count too). A statement '..UptoSaid' is the law's where the arguments, and the package variables that the reading takes, are together of bulk at most 1048576: NARROWER than '..Said'. Prove '..Said' where nothing that the law and all that it calls make is longer than what came in: it says more and counts as full. Else prove '..UptoSaid'. A law counts once. -/
mutual
def uptoBulk {H : Type} : DataW H → Nat
  | .lit (.string bytes) => bytes.length + 1
  | .lit _ => 1
  | .nil => 1
  | .ptr d => uptoBulk d + 1
  | .slice elems spare => uptoBulkAll elems + uptoBulkAll spare + 1
  | .agg parts => uptoBulkAll parts + 1
  | .iface _ d => uptoBulk d + 1
  | .map entries => uptoBulkEntries entries + 1
  | .held _ => 1
def uptoBulkAll {H : Type} : List (DataW H) → Nat
  | [] => 0
  | d :: r => uptoBulk d + uptoBulkAll r
def uptoBulkEntries {H : Type} : List (Lit × DataW H) → Nat
  | [] => 0
  | x :: r => uptoBulkEntry x + uptoBulkEntries r
def uptoBulkEntry {H : Type} : Lit × DataW H → Nat
  | (.string bytes, d) => bytes.length + uptoBulk d + 1
  | (_, d) => uptoBulk d + 1
 end
def uptoSmall : (H : Type) → List (DataW H) → Bool := fun _ ds => decide (uptoBulkAll ds ≤ 1048576)
def OpenSpec.upto (s : _root_.Go.ChangeSpec) : _root_.Go.OpenSpec := { _root_.Go.OpenSpec.ofChange s with cond := some uptoSmall }

/-- 'trellislaw21.PaintTiles', WHERE WHAT IT READS IS OF BULK AT MOST 1048576: true; the input reads as it did. -/
def paintTilesUptoRow : OpenClaim := { program := "ytbkhhegmmkcbbaa", sum := "f823a9cf7db60b624e439c7e0fb7589c9da4eb7ed9054ff6440190f7d866891d", func := "trellis/trellislaw21.PaintTiles", spec := "paintTiles", recurses := true, apart := false, narrowed := true }
def PaintTilesUptoSaid : Prop := paintTilesUptoRow.holds Try.pinned (OpenSpec.upto paintTilesSpec)

/-- 'trellislaw21.PaintSpares', WHERE WHAT IT READS IS OF BULK AT MOST 1048576: true; the input reads as it did. -/
def paintSparesUptoRow : OpenClaim := { program := "ytbkhhegmmkcbbaa", sum := "f823a9cf7db60b624e439c7e0fb7589c9da4eb7ed9054ff6440190f7d866891d", func := "trellis/trellislaw21.PaintSpares", spec := "paintSpares", recurses := true, apart := false, narrowed := true }
def PaintSparesUptoSaid : Prop := paintSparesUptoRow.holds Try.pinned (OpenSpec.upto paintSparesSpec)

/-- 'trellislaw21.PaintSpans', WHERE WHAT IT READS IS OF BULK AT MOST 1048576: true; the input reads as it did. -/
def paintSpansUptoRow : OpenClaim := { program := "ytbkhhegmmkcbbaa", sum := "f823a9cf7db60b624e439c7e0fb7589c9da4eb7ed9054ff6440190f7d866891d", func := "trellis/trellislaw21.PaintSpans", spec := "paintSpans", recurses := true, apart := false, narrowed := true }
def PaintSpansUptoSaid : Prop := paintSpansUptoRow.holds Try.pinned (OpenSpec.upto paintSpansSpec)

end Rows
end Go.Proofs.Ytbkhhegmmkcbbaa
