/-
  No cell of these rows narrows 'for every input' (looked for: loops, veiled, ifaces, maps, wideKeys, modest, calm, conditions, laid).
  DERIVED. THE GIVEN ROWS OF THIS SEAT. 6 by the template 'for every input the law returns true; each argument reads behind the call as it read before'; 0 by the template 'total and deterministic' (their statements: YtjpmmihcnfedgaaTotals.lean).
  GIVEN WITH THE SEED: the statements are not yours to turn. If you find one false, say at which input.
  Laid BY PROGRAM, IN A SANDBOX (cutbox-rows.mjs): the forced cells as the released guide's own fill.sh prints them over the translation 27d0f69f8081f88f… (all of the seat's roots in one cut). By AI agents, Wed Nov 11 2026. No macro, syntax, notation, axiom, sorry.
-/
import Derived.Test.YtjpmmihcnfedgaaChecked
import GoSem.Claim
import GoSem.ClaimJoined
import GoSem.ClaimMapViews
import Derived.JoinedTies
import Derived.KernelRfl
namespace Go.Proofs.Ytjpmmihcnfedgaa
/- THE CELL 'sum', in the pinned program and in every row, IS THE sha256 OF THE DUMP (.gsa) THAT YtjpmmihcnfedgaaProg.lean LOADS. Nothing in Lean hashes anything: it is a label: what it is worth is what the hold of that sum in a sandbox is worth. -/
noncomputable def Try.pinned : Pinned := { name := "ytjpmmihcnfedgaa", sum := "27d0f69f8081f88ff564c912f8a024fdcd4f9d022b2dadc82b8c458d644a4b99", checked := Try.checked }
namespace Rows
def none {H : Type} : Left H := { results := [], args := [] }

/-- 'trellislaw3.EditMaps': WHATEVER THE INPUT: true; the input reads as it did. -/
def editMapsSpec : ChangeSpec := { name := "editMaps", fn := fun _ => fun
  | [d1, d2, d3] => { results := [.lit (.bool true)], args := [d1, d2, d3] }
  | _ => none }
def editMapsRow : OpenClaim := { program := "ytjpmmihcnfedgaa", sum := "27d0f69f8081f88ff564c912f8a024fdcd4f9d022b2dadc82b8c458d644a4b99", func := "trellis/trellislaw3.EditMaps", spec := "editMaps", apart := false }
def EditMapsSaid : Prop := editMapsRow.holds Try.pinned (OpenSpec.ofChange editMapsSpec)

/-- ITS FALSE NEIGHBOUR: 'it returns false'. Refute it at one input. -/
def editMapsWrong : ChangeSpec := { name := "editMaps", fn := fun _ => fun
  | [d1, d2, d3] => { results := [.lit (.bool false)], args := [d1, d2, d3] }
  | _ => none }
def EditMapsWrongFalsely : Prop := editMapsRow.holds Try.pinned (OpenSpec.ofChange editMapsWrong)

/-- 'trellislaw3.EditBack': WHATEVER THE INPUT: true; the input reads as it did. -/
def editBackSpec : ChangeSpec := { name := "editBack", fn := fun _ => fun
  | [d1, d2] => { results := [.lit (.bool true)], args := [d1, d2] }
  | _ => none }
def editBackRow : OpenClaim := { program := "ytjpmmihcnfedgaa", sum := "27d0f69f8081f88ff564c912f8a024fdcd4f9d022b2dadc82b8c458d644a4b99", func := "trellis/trellislaw3.EditBack", spec := "editBack", inPlace := ["internal/abi.NoEscape", "internal/bytealg.MakeNoZero"], apart := false }
def EditBackSaid : Prop := editBackRow.holds Try.pinned (OpenSpec.ofChange editBackSpec)

/-- ITS FALSE NEIGHBOUR: 'it returns false'. Refute it at one input. -/
def editBackWrong : ChangeSpec := { name := "editBack", fn := fun _ => fun
  | [d1, d2] => { results := [.lit (.bool false)], args := [d1, d2] }
  | _ => none }
def EditBackWrongFalsely : Prop := editBackRow.holds Try.pinned (OpenSpec.ofChange editBackWrong)

/-- 'trellislaw3.EditStays': WHATEVER THE INPUT: true; the input reads as it did. -/
def editStaysSpec : ChangeSpec := { name := "editStays", fn := fun _ => fun
  | [d1, d2] => { results := [.lit (.bool true)], args := [d1, d2] }
  | _ => none }
def editStaysRow : OpenClaim := { program := "ytjpmmihcnfedgaa", sum := "27d0f69f8081f88ff564c912f8a024fdcd4f9d022b2dadc82b8c458d644a4b99", func := "trellis/trellislaw3.EditStays", spec := "editStays", inPlace := ["internal/abi.NoEscape", "internal/bytealg.MakeNoZero"], apart := false }
def EditStaysSaid : Prop := editStaysRow.holds Try.pinned (OpenSpec.ofChange editStaysSpec)

/-- ITS FALSE NEIGHBOUR: 'it returns false'. Refute it at one input. -/
def editStaysWrong : ChangeSpec := { name := "editStays", fn := fun _ => fun
  | [d1, d2] => { results := [.lit (.bool false)], args := [d1, d2] }
  | _ => none }
def EditStaysWrongFalsely : Prop := editStaysRow.holds Try.pinned (OpenSpec.ofChange editStaysWrong)

/-- 'trellislaw3.EditLeast': WHATEVER THE INPUT: true; the input reads as it did. -/
def editLeastSpec : ChangeSpec := { name := "editLeast", fn := fun _ => fun
  | [d1, d2, d3] => { results := [.lit (.bool true)], args := [d1, d2, d3] }
  | _ => none }
def editLeastRow : OpenClaim := { program := "ytjpmmihcnfedgaa", sum := "27d0f69f8081f88ff564c912f8a024fdcd4f9d022b2dadc82b8c458d644a4b99", func := "trellis/trellislaw3.EditLeast", spec := "editLeast", inPlace := ["internal/abi.NoEscape", "internal/bytealg.MakeNoZero"], apart := false }
def EditLeastSaid : Prop := editLeastRow.holds Try.pinned (OpenSpec.ofChange editLeastSpec)

/-- ITS FALSE NEIGHBOUR: 'it returns false'. Refute it at one input. -/
def editLeastWrong : ChangeSpec := { name := "editLeast", fn := fun _ => fun
  | [d1, d2, d3] => { results := [.lit (.bool false)], args := [d1, d2, d3] }
  | _ => none }
def EditLeastWrongFalsely : Prop := editLeastRow.holds Try.pinned (OpenSpec.ofChange editLeastWrong)

/-- 'trellislaw3.EditCovers': WHATEVER THE INPUT: true; the input reads as it did. -/
def editCoversSpec : ChangeSpec := { name := "editCovers", fn := fun _ => fun
  | [d1, d2, d3, d4] => { results := [.lit (.bool true)], args := [d1, d2, d3, d4] }
  | _ => none }
def editCoversRow : OpenClaim := { program := "ytjpmmihcnfedgaa", sum := "27d0f69f8081f88ff564c912f8a024fdcd4f9d022b2dadc82b8c458d644a4b99", func := "trellis/trellislaw3.EditCovers", spec := "editCovers", inPlace := ["internal/abi.NoEscape", "internal/bytealg.MakeNoZero"], apart := false }
def EditCoversSaid : Prop := editCoversRow.holds Try.pinned (OpenSpec.ofChange editCoversSpec)

/-- ITS FALSE NEIGHBOUR: 'it returns false'. Refute it at one input. -/
def editCoversWrong : ChangeSpec := { name := "editCovers", fn := fun _ => fun
  | [d1, d2, d3, d4] => { results := [.lit (.bool false)], args := [d1, d2, d3, d4] }
  | _ => none }
def EditCoversWrongFalsely : Prop := editCoversRow.holds Try.pinned (OpenSpec.ofChange editCoversWrong)

/-- 'trellislaw3.EditClamped': WHATEVER THE INPUT: true; the input reads as it did. -/
def editClampedSpec : ChangeSpec := { name := "editClamped", fn := fun _ => fun
  | [d1, d2, d3, d4] => { results := [.lit (.bool true)], args := [d1, d2, d3, d4] }
  | _ => none }
def editClampedRow : OpenClaim := { program := "ytjpmmihcnfedgaa", sum := "27d0f69f8081f88ff564c912f8a024fdcd4f9d022b2dadc82b8c458d644a4b99", func := "trellis/trellislaw3.EditClamped", spec := "editClamped", inPlace := ["internal/abi.NoEscape", "internal/bytealg.MakeNoZero"], apart := false }
def EditClampedSaid : Prop := editClampedRow.holds Try.pinned (OpenSpec.ofChange editClampedSpec)

/-- ITS FALSE NEIGHBOUR: 'it returns false'. Refute it at one input. -/
def editClampedWrong : ChangeSpec := { name := "editClamped", fn := fun _ => fun
  | [d1, d2, d3, d4] => { results := [.lit (.bool false)], args := [d1, d2, d3, d4] }
  | _ => none }
def EditClampedWrongFalsely : Prop := editClampedRow.holds Try.pinned (OpenSpec.ofChange editClampedWrong)

/- THE SECOND FORM. 'bulk': how many values and letters a reading holds, each counted each time it is reached (what is shared counts as often as it is met; a slice's spare places count too). A statement '..UptoSaid' is the law's where the arguments, and the package variables that the reading takes, are together of bulk at most 1048576: NARROWER than '..Said'. Prove '..Said' where nothing that the law and all that it calls make is longer than what came in: it says more and counts as full. Else prove '..UptoSaid'. A law counts once. -/
mutual
def uptoBulk {H : Type} : DataW H → Nat
  | .lit (.string bytes) => bytes.length + 1
  | .lit _ => 1
  | .nil => 1
  | .ptr d => uptoBulk d + 1
  | .slice elems spare => uptoBulkAll elems + uptoBulkAll spare + 1
  | .agg parts => uptoBulkAll parts + 1
  | .iface _ d => uptoBulk d + 1
  | .map entries => uptoBulkEntries entries + 1
  | .held _ => 1
def uptoBulkAll {H : Type} : List (DataW H) → Nat
  | [] => 0
  | d :: r => uptoBulk d + uptoBulkAll r
def uptoBulkEntries {H : Type} : List (Lit × DataW H) → Nat
  | [] => 0
  | x :: r => uptoBulkEntry x + uptoBulkEntries r
def uptoBulkEntry {H : Type} : Lit × DataW H → Nat
  | (.string bytes, d) => bytes.length + uptoBulk d + 1
  | (_, d) => uptoBulk d + 1
 end
def uptoSmall : (H : Type) → List (DataW H) → Bool := fun _ ds => decide (uptoBulkAll ds ≤ 1048576)
def OpenSpec.upto (s : _root_.Go.ChangeSpec) : _root_.Go.OpenSpec := { _root_.Go.OpenSpec.ofChange s with cond := some uptoSmall }

/-- 'trellislaw3.EditMaps', WHERE WHAT IT READS IS OF BULK AT MOST 1048576: true; the input reads as it did. -/
def editMapsUptoRow : OpenClaim := { program := "ytjpmmihcnfedgaa", sum := "27d0f69f8081f88ff564c912f8a024fdcd4f9d022b2dadc82b8c458d644a4b99", func := "trellis/trellislaw3.EditMaps", spec := "editMaps", apart := false, narrowed := true }
def EditMapsUptoSaid : Prop := editMapsUptoRow.holds Try.pinned (OpenSpec.upto editMapsSpec)

/-- 'trellislaw3.EditBack', WHERE WHAT IT READS IS OF BULK AT MOST 1048576: true; the input reads as it did. -/
def editBackUptoRow : OpenClaim := { program := "ytjpmmihcnfedgaa", sum := "27d0f69f8081f88ff564c912f8a024fdcd4f9d022b2dadc82b8c458d644a4b99", func := "trellis/trellislaw3.EditBack", spec := "editBack", inPlace := ["internal/abi.NoEscape", "internal/bytealg.MakeNoZero"], apart := false, narrowed := true }
def EditBackUptoSaid : Prop := editBackUptoRow.holds Try.pinned (OpenSpec.upto editBackSpec)

/-- 'trellislaw3.EditStays', WHERE WHAT IT READS IS OF BULK AT MOST 1048576: true; the input reads as it did. -/
def editStaysUptoRow : OpenClaim := { program := "ytjpmmihcnfedgaa", sum := "27d0f69f8081f88ff564c912f8a024fdcd4f9d022b2dadc82b8c458d644a4b99", func := "trellis/trellislaw3.EditStays", spec := "editStays", inPlace := ["internal/abi.NoEscape", "internal/bytealg.MakeNoZero"], apart := false, narrowed := true }
def EditStaysUptoSaid : Prop := editStaysUptoRow.holds Try.pinned (OpenSpec.upto editStaysSpec)

/-- 'trellislaw3.EditLeast', WHERE WHAT IT READS IS OF BULK AT MOST 1048576: true; the input reads as it did. -/
def editLeastUptoRow : OpenClaim := { program := "ytjpmmihcnfedgaa", sum := "27d0f69f8081f88ff564c912f8a024fdcd4f9d022b2dadc82b8c458d644a4b99", func := "trellis/trellislaw3.EditLeast", spec := "editLeast", inPlace := ["internal/abi.NoEscape", "internal/bytealg.MakeNoZero"], apart := false, narrowed := true }
def EditLeastUptoSaid : Prop := editLeastUptoRow.holds Try.pinned (OpenSpec.upto editLeastSpec)

/-- 'trellislaw3.EditCovers', WHERE WHAT IT READS IS OF BULK AT MOST 1048576: true; the input reads as it did. -/
def editCoversUptoRow : OpenClaim := { program := "ytjpmmihcnfedgaa", sum := "27d0f69f8081f88ff564c912f8a024fdcd4f9d022b2dadc82b8c458d644a4b99", func := "trellis/trellislaw3.EditCovers", spec := "editCovers", inPlace := ["internal/abi.NoEscape", "internal/bytealg.MakeNoZero"], apart := false, narrowed := true }
def EditCoversUptoSaid : Prop := editCoversUptoRow.holds Try.pinned (OpenSpec.upto editCoversSpec)

/-- 'trellislaw3.EditClamped', WHERE WHAT IT READS IS OF BULK AT MOST 1048576: true; the input reads as it did. -/
def editClampedUptoRow : OpenClaim := { program := "ytjpmmihcnfedgaa", sum := "27d0f69f8081f88ff564c912f8a024fdcd4f9d022b2dadc82b8c458d644a4b99", func := "trellis/trellislaw3.EditClamped", spec := "editClamped", inPlace := ["internal/abi.NoEscape", "internal/bytealg.MakeNoZero"], apart := false, narrowed := true }
def EditClampedUptoSaid : Prop := editClampedUptoRow.holds Try.pinned (OpenSpec.upto editClampedSpec)

end Rows
end Go.Proofs.Ytjpmmihcnfedgaa
