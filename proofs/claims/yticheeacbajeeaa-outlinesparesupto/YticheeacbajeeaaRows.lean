/-
  No cell of these rows narrows 'for every input' (looked for: loops, veiled, ifaces, maps, wideKeys, modest, calm, conditions, laid).
  DERIVED. THE GIVEN ROWS OF THIS SEAT. 4 by the template 'for every input the law returns true; each argument reads behind the call as it read before'; 0 by the template 'total and deterministic' (their statements: YticheeacbajeeaaTotals.lean).
  GIVEN WITH THE SEED: the statements are not yours to turn. If you find one false, say at which input.
  Laid BY PROGRAM, IN A SANDBOX (cutbox-rows.mjs): the forced cells as the released guide's own fill.sh prints them over the translation 5c0f27d85977e4ed… (all of the seat's roots in one cut). By AI agents, Wed Nov 11 2026. No macro, syntax, notation, axiom, sorry.
-/
import Derived.Test.YticheeacbajeeaaChecked
import GoSem.Claim
import GoSem.ClaimJoined
import GoSem.ClaimMapViews
import Derived.JoinedTies
import Derived.KernelRfl
namespace Go.Proofs.Yticheeacbajeeaa
/- THE CELL 'sum', in the pinned program and in every row, IS THE sha256 OF THE DUMP (.gsa) THAT YticheeacbajeeaaProg.lean LOADS. Nothing in Lean hashes anything: it is a label: what it is worth is what the hold of that sum in a sandbox is worth. -/
noncomputable def Try.pinned : Pinned := { name := "yticheeacbajeeaa", sum := "5c0f27d85977e4ed6bb45bb66657468ef033675b4e643215cef5fe533ef1dd5d", checked := Try.checked }
namespace Rows
def none {H : Type} : Left H := { results := [], args := [] }

/-- 'trellislaw22.OutlineSymbols': WHATEVER THE INPUT: true; the input reads as it did. -/
def outlineSymbolsSpec : ChangeSpec := { name := "outlineSymbols", fn := fun _ => fun
  | [d1, d2, d3] => { results := [.lit (.bool true)], args := [d1, d2, d3] }
  | _ => none }
def outlineSymbolsRow : OpenClaim := { program := "yticheeacbajeeaa", sum := "5c0f27d85977e4ed6bb45bb66657468ef033675b4e643215cef5fe533ef1dd5d", func := "trellis/trellislaw22.OutlineSymbols", spec := "outlineSymbols", unfollowed := true, recurses := true, apart := false }
def OutlineSymbolsSaid : Prop := outlineSymbolsRow.holds Try.pinned (OpenSpec.ofChange outlineSymbolsSpec)

/-- ITS FALSE NEIGHBOUR: 'it returns false'. Refute it at one input. -/
def outlineSymbolsWrong : ChangeSpec := { name := "outlineSymbols", fn := fun _ => fun
  | [d1, d2, d3] => { results := [.lit (.bool false)], args := [d1, d2, d3] }
  | _ => none }
def OutlineSymbolsWrongFalsely : Prop := outlineSymbolsRow.holds Try.pinned (OpenSpec.ofChange outlineSymbolsWrong)

/-- 'trellislaw22.OutlineMoves': WHATEVER THE INPUT: true; the input reads as it did. -/
def outlineMovesSpec : ChangeSpec := { name := "outlineMoves", fn := fun _ => fun
  | [d1, d2, d3, d4] => { results := [.lit (.bool true)], args := [d1, d2, d3, d4] }
  | _ => none }
def outlineMovesRow : OpenClaim := { program := "yticheeacbajeeaa", sum := "5c0f27d85977e4ed6bb45bb66657468ef033675b4e643215cef5fe533ef1dd5d", func := "trellis/trellislaw22.OutlineMoves", spec := "outlineMoves", inPlace := ["internal/bytealg.CountString", "internal/bytealg.IndexByteString", "internal/bytealg.IndexString"], unfollowed := true, recurses := true, named := ["internal/bytealg.MaxLen"], apart := false }
def OutlineMovesSaid : Prop := outlineMovesRow.holds Try.pinned (OpenSpec.ofChange outlineMovesSpec)

/-- ITS FALSE NEIGHBOUR: 'it returns false'. Refute it at one input. -/
def outlineMovesWrong : ChangeSpec := { name := "outlineMoves", fn := fun _ => fun
  | [d1, d2, d3, d4] => { results := [.lit (.bool false)], args := [d1, d2, d3, d4] }
  | _ => none }
def OutlineMovesWrongFalsely : Prop := outlineMovesRow.holds Try.pinned (OpenSpec.ofChange outlineMovesWrong)

/-- 'trellislaw22.OutlineSpares': WHATEVER THE INPUT: true; the input reads as it did. -/
def outlineSparesSpec : ChangeSpec := { name := "outlineSpares", fn := fun _ => fun
  | [d1, d2, d3] => { results := [.lit (.bool true)], args := [d1, d2, d3] }
  | _ => none }
def outlineSparesRow : OpenClaim := { program := "yticheeacbajeeaa", sum := "5c0f27d85977e4ed6bb45bb66657468ef033675b4e643215cef5fe533ef1dd5d", func := "trellis/trellislaw22.OutlineSpares", spec := "outlineSpares", inPlace := ["internal/bytealg.CountString", "internal/bytealg.IndexByteString", "internal/bytealg.IndexString"], unfollowed := true, recurses := true, named := ["internal/bytealg.MaxLen"], apart := false }
def OutlineSparesSaid : Prop := outlineSparesRow.holds Try.pinned (OpenSpec.ofChange outlineSparesSpec)

/-- ITS FALSE NEIGHBOUR: 'it returns false'. Refute it at one input. -/
def outlineSparesWrong : ChangeSpec := { name := "outlineSpares", fn := fun _ => fun
  | [d1, d2, d3] => { results := [.lit (.bool false)], args := [d1, d2, d3] }
  | _ => none }
def OutlineSparesWrongFalsely : Prop := outlineSparesRow.holds Try.pinned (OpenSpec.ofChange outlineSparesWrong)

/-- 'trellislaw22.OutlineFolds': WHATEVER THE INPUT: true; the input reads as it did. -/
def outlineFoldsSpec : ChangeSpec := { name := "outlineFolds", fn := fun _ => fun
  | [d1, d2, d3] => { results := [.lit (.bool true)], args := [d1, d2, d3] }
  | _ => none }
def outlineFoldsRow : OpenClaim := { program := "yticheeacbajeeaa", sum := "5c0f27d85977e4ed6bb45bb66657468ef033675b4e643215cef5fe533ef1dd5d", func := "trellis/trellislaw22.OutlineFolds", spec := "outlineFolds", inPlace := ["internal/bytealg.CountString", "internal/bytealg.IndexByteString", "internal/bytealg.IndexString"], unfollowed := true, recurses := true, named := ["internal/bytealg.MaxLen"], apart := false }
def OutlineFoldsSaid : Prop := outlineFoldsRow.holds Try.pinned (OpenSpec.ofChange outlineFoldsSpec)

/-- ITS FALSE NEIGHBOUR: 'it returns false'. Refute it at one input. -/
def outlineFoldsWrong : ChangeSpec := { name := "outlineFolds", fn := fun _ => fun
  | [d1, d2, d3] => { results := [.lit (.bool false)], args := [d1, d2, d3] }
  | _ => none }
def OutlineFoldsWrongFalsely : Prop := outlineFoldsRow.holds Try.pinned (OpenSpec.ofChange outlineFoldsWrong)

/- THE SECOND FORM. 'bulk': how many values and letters a reading holds, each counted each time it is reached (what is shared counts as often as it is met; a slice's spare places count too). A statement '..UptoSaid' is the law's where the arguments, and the package variables that the reading takes, are together of bulk at most 1048576: NARROWER than '..Said'. Prove '..Said' where nothing that the law and all that it calls make is longer than what came in: it says more and counts as full. Else prove '..UptoSaid'. A law counts once. -/
mutual
def uptoBulk {H : Type} : DataW H → Nat
  | .lit (.string bytes) => bytes.length + 1
  | .lit _ => 1
  | .nil => 1
  | .ptr d => uptoBulk d + 1
  | .slice elems spare => uptoBulkAll elems + uptoBulkAll spare + 1
  | .agg parts => uptoBulkAll parts + 1
  | .iface _ d => uptoBulk d + 1
  | .map entries => uptoBulkEntries entries + 1
  | .held _ => 1
def uptoBulkAll {H : Type} : List (DataW H) → Nat
  | [] => 0
  | d :: r => uptoBulk d + uptoBulkAll r
def uptoBulkEntries {H : Type} : List (Lit × DataW H) → Nat
  | [] => 0
  | x :: r => uptoBulkEntry x + uptoBulkEntries r
def uptoBulkEntry {H : Type} : Lit × DataW H → Nat
  | (.string bytes, d) => bytes.length + uptoBulk d + 1
  | (_, d) => uptoBulk d + 1
 end
def uptoSmall : (H : Type) → List (DataW H) → Bool := fun _ ds => decide (uptoBulkAll ds ≤ 1048576)
def OpenSpec.upto (s : _root_.Go.ChangeSpec) : _root_.Go.OpenSpec := { _root_.Go.OpenSpec.ofChange s with cond := some uptoSmall }

/-- 'trellislaw22.OutlineSymbols', WHERE WHAT IT READS IS OF BULK AT MOST 1048576: true; the input reads as it did. -/
def outlineSymbolsUptoRow : OpenClaim := { program := "yticheeacbajeeaa", sum := "5c0f27d85977e4ed6bb45bb66657468ef033675b4e643215cef5fe533ef1dd5d", func := "trellis/trellislaw22.OutlineSymbols", spec := "outlineSymbols", unfollowed := true, recurses := true, apart := false, narrowed := true }
def OutlineSymbolsUptoSaid : Prop := outlineSymbolsUptoRow.holds Try.pinned (OpenSpec.upto outlineSymbolsSpec)

/-- 'trellislaw22.OutlineMoves', WHERE WHAT IT READS IS OF BULK AT MOST 1048576: true; the input reads as it did. -/
def outlineMovesUptoRow : OpenClaim := { program := "yticheeacbajeeaa", sum := "5c0f27d85977e4ed6bb45bb66657468ef033675b4e643215cef5fe533ef1dd5d", func := "trellis/trellislaw22.OutlineMoves", spec := "outlineMoves", inPlace := ["internal/bytealg.CountString", "internal/bytealg.IndexByteString", "internal/bytealg.IndexString"], unfollowed := true, recurses := true, named := ["internal/bytealg.MaxLen"], apart := false, narrowed := true }
def OutlineMovesUptoSaid : Prop := outlineMovesUptoRow.holds Try.pinned (OpenSpec.upto outlineMovesSpec)

/-- 'trellislaw22.OutlineSpares', WHERE WHAT IT READS IS OF BULK AT MOST 1048576: true; the input reads as it did. -/
def outlineSparesUptoRow : OpenClaim := { program := "yticheeacbajeeaa", sum := "5c0f27d85977e4ed6bb45bb66657468ef033675b4e643215cef5fe533ef1dd5d", func := "trellis/trellislaw22.OutlineSpares", spec := "outlineSpares", inPlace := ["internal/bytealg.CountString", "internal/bytealg.IndexByteString", "internal/bytealg.IndexString"], unfollowed := true, recurses := true, named := ["internal/bytealg.MaxLen"], apart := false, narrowed := true }
def OutlineSparesUptoSaid : Prop := outlineSparesUptoRow.holds Try.pinned (OpenSpec.upto outlineSparesSpec)

/-- 'trellislaw22.OutlineFolds', WHERE WHAT IT READS IS OF BULK AT MOST 1048576: true; the input reads as it did. -/
def outlineFoldsUptoRow : OpenClaim := { program := "yticheeacbajeeaa", sum := "5c0f27d85977e4ed6bb45bb66657468ef033675b4e643215cef5fe533ef1dd5d", func := "trellis/trellislaw22.OutlineFolds", spec := "outlineFolds", inPlace := ["internal/bytealg.CountString", "internal/bytealg.IndexByteString", "internal/bytealg.IndexString"], unfollowed := true, recurses := true, named := ["internal/bytealg.MaxLen"], apart := false, narrowed := true }
def OutlineFoldsUptoSaid : Prop := outlineFoldsUptoRow.holds Try.pinned (OpenSpec.upto outlineFoldsSpec)

end Rows
end Go.Proofs.Yticheeacbajeeaa
