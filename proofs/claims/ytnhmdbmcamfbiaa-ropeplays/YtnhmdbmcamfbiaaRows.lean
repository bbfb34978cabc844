/-
  No cell of these rows narrows 'for every input' (looked for: loops, veiled, ifaces, maps, wideKeys, modest, calm, conditions, laid).
  DERIVED. THE GIVEN ROWS OF THIS SEAT. 6 by the template 'for every input the law returns true; each argument reads behind the call as it read before'; 0 by the template 'total and deterministic' (their statements: YtnhmdbmcamfbiaaTotals.lean).
  GIVEN WITH THE SEED: the statements are not yours to turn. If you find one false, say at which input.
  Laid BY PROGRAM, IN A SANDBOX (cutbox-rows.mjs): the forced cells as the released guide's own fill.sh prints them over the translation 4374fa13cf5ca1f3… (all of the seat's roots in one cut). By AI agents, Wed Nov 11 2026. No macro, syntax, notation, axiom, sorry.
-/
import Derived.Test.YtnhmdbmcamfbiaaChecked
import GoSem.Claim
import GoSem.ClaimJoined
import GoSem.ClaimMapViews
import Derived.JoinedTies
import Derived.KernelRfl
namespace Go.Proofs.Ytnhmdbmcamfbiaa
/- THE CELL 'sum', in the pinned program and in every row, IS THE sha256 OF THE DUMP (.gsa) THAT YtnhmdbmcamfbiaaProg.lean LOADS. Nothing in Lean hashes anything: it is a label: what it is worth is what the hold of that sum in a sandbox is worth. -/
noncomputable def Try.pinned : Pinned := { name := "ytnhmdbmcamfbiaa", sum := "4374fa13cf5ca1f3d5ca9e24f30b3a976af89ea9353a16ad8a1fb48fd98c8aed", checked := Try.checked }
namespace Rows
def none {H : Type} : Left H := { results := [], args := [] }

/-- 'trellislaw1.RopeFills': WHATEVER THE INPUT: true; the input reads as it did. -/
def ropeFillsSpec : ChangeSpec := { name := "ropeFills", fn := fun _ => fun
  | [d1, d2, d3] => { results := [.lit (.bool true)], args := [d1, d2, d3] }
  | _ => none }
def ropeFillsRow : OpenClaim := { program := "ytnhmdbmcamfbiaa", sum := "4374fa13cf5ca1f3d5ca9e24f30b3a976af89ea9353a16ad8a1fb48fd98c8aed", func := "trellis/trellislaw1.RopeFills", spec := "ropeFills", unfollowed := true, recurses := true, apart := false }
def RopeFillsSaid : Prop := ropeFillsRow.holds Try.pinned (OpenSpec.ofChange ropeFillsSpec)

/-- ITS FALSE NEIGHBOUR: 'it returns false'. Refute it at one input. -/
def ropeFillsWrong : ChangeSpec := { name := "ropeFills", fn := fun _ => fun
  | [d1, d2, d3] => { results := [.lit (.bool false)], args := [d1, d2, d3] }
  | _ => none }
def RopeFillsWrongFalsely : Prop := ropeFillsRow.holds Try.pinned (OpenSpec.ofChange ropeFillsWrong)

/-- 'trellislaw1.RopeLow': WHATEVER THE INPUT: true; the input reads as it did. -/
def ropeLowSpec : ChangeSpec := { name := "ropeLow", fn := fun _ => fun
  | [d1, d2] => { results := [.lit (.bool true)], args := [d1, d2] }
  | _ => none }
def ropeLowRow : OpenClaim := { program := "ytnhmdbmcamfbiaa", sum := "4374fa13cf5ca1f3d5ca9e24f30b3a976af89ea9353a16ad8a1fb48fd98c8aed", func := "trellis/trellislaw1.RopeLow", spec := "ropeLow", inPlace := ["internal/abi.NoEscape", "internal/bytealg.MakeNoZero"], unfollowed := true, recurses := true, apart := false }
def RopeLowSaid : Prop := ropeLowRow.holds Try.pinned (OpenSpec.ofChange ropeLowSpec)

/-- ITS FALSE NEIGHBOUR: 'it returns false'. Refute it at one input. -/
def ropeLowWrong : ChangeSpec := { name := "ropeLow", fn := fun _ => fun
  | [d1, d2] => { results := [.lit (.bool false)], args := [d1, d2] }
  | _ => none }
def RopeLowWrongFalsely : Prop := ropeLowRow.holds Try.pinned (OpenSpec.ofChange ropeLowWrong)

/-- 'trellislaw1.RopeBack': WHATEVER THE INPUT: true; the input reads as it did. -/
def ropeBackSpec : ChangeSpec := { name := "ropeBack", fn := fun _ => fun
  | [d1, d2] => { results := [.lit (.bool true)], args := [d1, d2] }
  | _ => none }
def ropeBackRow : OpenClaim := { program := "ytnhmdbmcamfbiaa", sum := "4374fa13cf5ca1f3d5ca9e24f30b3a976af89ea9353a16ad8a1fb48fd98c8aed", func := "trellis/trellislaw1.RopeBack", spec := "ropeBack", inPlace := ["internal/abi.NoEscape", "internal/bytealg.MakeNoZero"], unfollowed := true, recurses := true, apart := false }
def RopeBackSaid : Prop := ropeBackRow.holds Try.pinned (OpenSpec.ofChange ropeBackSpec)

/-- ITS FALSE NEIGHBOUR: 'it returns false'. Refute it at one input. -/
def ropeBackWrong : ChangeSpec := { name := "ropeBack", fn := fun _ => fun
  | [d1, d2] => { results := [.lit (.bool false)], args := [d1, d2] }
  | _ => none }
def RopeBackWrongFalsely : Prop := ropeBackRow.holds Try.pinned (OpenSpec.ofChange ropeBackWrong)

/-- 'trellislaw1.RopePieces': WHATEVER THE INPUT: true; the input reads as it did. -/
def ropePiecesSpec : ChangeSpec := { name := "ropePieces", fn := fun _ => fun
  | [d1, d2, d3, d4, d5] => { results := [.lit (.bool true)], args := [d1, d2, d3, d4, d5] }
  | _ => none }
def ropePiecesRow : OpenClaim := { program := "ytnhmdbmcamfbiaa", sum := "4374fa13cf5ca1f3d5ca9e24f30b3a976af89ea9353a16ad8a1fb48fd98c8aed", func := "trellis/trellislaw1.RopePieces", spec := "ropePieces", inPlace := ["internal/abi.NoEscape", "internal/bytealg.MakeNoZero"], unfollowed := true, recurses := true, apart := false }
def RopePiecesSaid : Prop := ropePiecesRow.holds Try.pinned (OpenSpec.ofChange ropePiecesSpec)

/-- ITS FALSE NEIGHBOUR: 'it returns false'. Refute it at one input. -/
def ropePiecesWrong : ChangeSpec := { name := "ropePieces", fn := fun _ => fun
  | [d1, d2, d3, d4, d5] => { results := [.lit (.bool false)], args := [d1, d2, d3, d4, d5] }
  | _ => none }
def RopePiecesWrongFalsely : Prop := ropePiecesRow.holds Try.pinned (OpenSpec.ofChange ropePiecesWrong)

/-- 'trellislaw1.RopeKeeps': WHATEVER THE INPUT: true; the input reads as it did. -/
def ropeKeepsSpec : ChangeSpec := { name := "ropeKeeps", fn := fun _ => fun
  | [d1, d2] => { results := [.lit (.bool true)], args := [d1, d2] }
  | _ => none }
def ropeKeepsRow : OpenClaim := { program := "ytnhmdbmcamfbiaa", sum := "4374fa13cf5ca1f3d5ca9e24f30b3a976af89ea9353a16ad8a1fb48fd98c8aed", func := "trellis/trellislaw1.RopeKeeps", spec := "ropeKeeps", inPlace := ["internal/abi.NoEscape", "internal/bytealg.MakeNoZero"], unfollowed := true, recurses := true, apart := false }
def RopeKeepsSaid : Prop := ropeKeepsRow.holds Try.pinned (OpenSpec.ofChange ropeKeepsSpec)

/-- ITS FALSE NEIGHBOUR: 'it returns false'. Refute it at one input. -/
def ropeKeepsWrong : ChangeSpec := { name := "ropeKeeps", fn := fun _ => fun
  | [d1, d2] => { results := [.lit (.bool false)], args := [d1, d2] }
  | _ => none }
def RopeKeepsWrongFalsely : Prop := ropeKeepsRow.holds Try.pinned (OpenSpec.ofChange ropeKeepsWrong)

/-- 'trellislaw1.RopePlays': WHATEVER THE INPUT: true; the input reads as it did. -/
def ropePlaysSpec : ChangeSpec := { name := "ropePlays", fn := fun _ => fun
  | [d1, d2] => { results := [.lit (.bool true)], args := [d1, d2] }
  | _ => none }
def ropePlaysRow : OpenClaim := { program := "ytnhmdbmcamfbiaa", sum := "4374fa13cf5ca1f3d5ca9e24f30b3a976af89ea9353a16ad8a1fb48fd98c8aed", func := "trellis/trellislaw1.RopePlays", spec := "ropePlays", inPlace := ["internal/abi.NoEscape", "internal/bytealg.MakeNoZero"], unfollowed := true, recurses := true, apart := false }
def RopePlaysSaid : Prop := ropePlaysRow.holds Try.pinned (OpenSpec.ofChange ropePlaysSpec)

/-- ITS FALSE NEIGHBOUR: 'it returns false'. Refute it at one input. -/
def ropePlaysWrong : ChangeSpec := { name := "ropePlays", fn := fun _ => fun
  | [d1, d2] => { results := [.lit (.bool false)], args := [d1, d2] }
  | _ => none }
def RopePlaysWrongFalsely : Prop := ropePlaysRow.holds Try.pinned (OpenSpec.ofChange ropePlaysWrong)

/- THE SECOND FORM. 'bulk': how many values and letters a reading holds, each counted each time it is reached (what is shared counts as often as it is met; a slice's spare places count too). A statement '..UptoSaid' is the law's where the arguments, and the package variables that the reading takes, are together of bulk at most 1048576: NARROWER than '..Said'. Prove '..Said' where nothing that the law and all that it calls make is longer than what came in: it says more and counts as full. Else prove '..UptoSaid'. A law counts once. -/
mutual
def uptoBulk {H : Type} : DataW H → Nat
  | .lit (.string bytes) => bytes.length + 1
  | .lit _ => 1
  | .nil => 1
  | .ptr d => uptoBulk d + 1
  | .slice elems spare => uptoBulkAll elems + uptoBulkAll spare + 1
  | .agg parts => uptoBulkAll parts + 1
  | .iface _ d => uptoBulk d + 1
  | .map entries => uptoBulkEntries entries + 1
  | .held _ => 1
def uptoBulkAll {H : Type} : List (DataW H) → Nat
  | [] => 0
  | d :: r => uptoBulk d + uptoBulkAll r
def uptoBulkEntries {H : Type} : List (Lit × DataW H) → Nat
  | [] => 0
  | x :: r => uptoBulkEntry x + uptoBulkEntries r
def uptoBulkEntry {H : Type} : Lit × DataW H → Nat
  | (.string bytes, d) => bytes.length + uptoBulk d + 1
  | (_, d) => uptoBulk d + 1
 end
def uptoSmall : (H : Type) → List (DataW H) → Bool := fun _ ds => decide (uptoBulkAll ds ≤ 1048576)
def OpenSpec.upto (s : _root_.Go.ChangeSpec) : _root_.Go.OpenSpec := { _root_.Go.OpenSpec.ofChange s with cond := some uptoSmall }

/-- 'trellislaw1.RopeFills', WHERE WHAT IT READS IS OF BULK AT MOST 1048576: true; the input reads as it did. -/
def ropeFillsUptoRow : OpenClaim := { program := "ytnhmdbmcamfbiaa", sum := "4374fa13cf5ca1f3d5ca9e24f30b3a976af89ea9353a16ad8a1fb48fd98c8aed", func := "trellis/trellislaw1.RopeFills", spec := "ropeFills", unfollowed := true, recurses := true, apart := false, narrowed := true }
def RopeFillsUptoSaid : Prop := ropeFillsUptoRow.holds Try.pinned (OpenSpec.upto ropeFillsSpec)

/-- 'trellislaw1.RopeLow', WHERE WHAT IT READS IS OF BULK AT MOST 1048576: true; the input reads as it did. -/
def ropeLowUptoRow : OpenClaim := { program := "ytnhmdbmcamfbiaa", sum := "4374fa13cf5ca1f3d5ca9e24f30b3a976af89ea9353a16ad8a1fb48fd98c8aed", func := "trellis/trellislaw1.RopeLow", spec := "ropeLow", inPlace := ["internal/abi.NoEscape", "internal/bytealg.MakeNoZero"], unfollowed := true, recurses := true, apart := false, narrowed := true }
def RopeLowUptoSaid : Prop := ropeLowUptoRow.holds Try.pinned (OpenSpec.upto ropeLowSpec)

/-- 'trellislaw1.RopeBack', WHERE WHAT IT READS IS OF BULK AT MOST 1048576: true; the input reads as it did. -/
def ropeBackUptoRow : OpenClaim := { program := "ytnhmdbmcamfbiaa", sum := "4374fa13cf5ca1f3d5ca9e24f30b3a976af89ea9353a16ad8a1fb48fd98c8aed", func := "trellis/trellislaw1.RopeBack", spec := "ropeBack", inPlace := ["internal/abi.NoEscape", "internal/bytealg.MakeNoZero"], unfollowed := true, recurses := true, apart := false, narrowed := true }
def RopeBackUptoSaid : Prop := ropeBackUptoRow.holds Try.pinned (OpenSpec.upto ropeBackSpec)

/-- 'trellislaw1.RopePieces', WHERE WHAT IT READS IS OF BULK AT MOST 1048576: true; the input reads as it did. -/
def ropePiecesUptoRow : OpenClaim := { program := "ytnhmdbmcamfbiaa", sum := "4374fa13cf5ca1f3d5ca9e24f30b3a976af89ea9353a16ad8a1fb48fd98c8aed", func := "trellis/trellislaw1.RopePieces", spec := "ropePieces", inPlace := ["internal/abi.NoEscape", "internal/bytealg.MakeNoZero"], unfollowed := true, recurses := true, apart := false, narrowed := true }
def RopePiecesUptoSaid : Prop := ropePiecesUptoRow.holds Try.pinned (OpenSpec.upto ropePiecesSpec)

/-- 'trellislaw1.RopeKeeps', WHERE WHAT IT READS IS OF BULK AT MOST 1048576: true; the input reads as it did. -/
def ropeKeepsUptoRow : OpenClaim := { program := "ytnhmdbmcamfbiaa", sum := "4374fa13cf5ca1f3d5ca9e24f30b3a976af89ea9353a16ad8a1fb48fd98c8aed", func := "trellis/trellislaw1.RopeKeeps", spec := "ropeKeeps", inPlace := ["internal/abi.NoEscape", "internal/bytealg.MakeNoZero"], unfollowed := true, recurses := true, apart := false, narrowed := true }
def RopeKeepsUptoSaid : Prop := ropeKeepsUptoRow.holds Try.pinned (OpenSpec.upto ropeKeepsSpec)

/-- 'trellislaw1.RopePlays', WHERE WHAT IT READS IS OF BULK AT MOST 1048576: true; the input reads as it did. -/
def ropePlaysUptoRow : OpenClaim := { program := "ytnhmdbmcamfbiaa", sum := "4374fa13cf5ca1f3d5ca9e24f30b3a976af89ea9353a16ad8a1fb48fd98c8aed", func := "trellis/trellislaw1.RopePlays", spec := "ropePlays", inPlace := ["internal/abi.NoEscape", "internal/bytealg.MakeNoZero"], unfollowed := true, recurses := true, apart := false, narrowed := true }
def RopePlaysUptoSaid : Prop := ropePlaysUptoRow.holds Try.pinned (OpenSpec.upto ropePlaysSpec)

end Rows
end Go.Proofs.Ytnhmdbmcamfbiaa
