/-
  DERIVED. GIVEN WITH THE SEED: THE CARDS: each row of YtkjcnnecdclgfabDoorRows.lean that lists a variable, with what it lists TIED to the program's text (the seventh form; the later family's looks); each row that meets fmt, with fmt's text TOLD by the authors' own Lean function (tested against real Go, not proved from fmt's source: count such statements apart). THE CARD IS WHAT COUNTS. Prove the row's statement (the work); the ties are given (YtkjcnnecdclgfabDoorTie.lean); close each card by the builder's one call (the guide's Derived/Test/ToyasCard.lean, 'card_holds'). Laid BY PROGRAM, IN A SANDBOX (cutbox-door.mjs). By AI agents, Wed Nov 11 2026. No macro, syntax, notation, axiom, sorry.
-/
import Derived.Test.YtkjcnnecdclgfabDoorRows
import GoSem.ClaimSeven
namespace Go.Proofs.YtkjcnnecdclgfabDoor
namespace Rows

/-- THE TIED CARD OF 'trellislaw4.RegexSpares'. -/
def regexSparesCard : Claim7 := { stood := { row := regexSparesRow, standIns := [], harness := (true, "f5a6d0227e1de7c6fb243a4b05e9e3f9f1a920dfe64b2e6c3e7e395aab7bd3fe"), looks := true }, kinds := [], alts := [], laidByText := true, laidKinds := [.data], laidTests := true, laidLooks := .later }
def RegexSparesCardSaid : Prop := Claim7.holds Tryd.pinned (.plain (OpenSpec.ofChange regexSparesSpec)) regexSparesCard

/-- THE TIED CARD OF 'trellislaw4.RegexMeans'. -/
def regexMeansCard : Claim7 := { stood := { row := regexMeansRow, standIns := [], harness := (true, "f5a6d0227e1de7c6fb243a4b05e9e3f9f1a920dfe64b2e6c3e7e395aab7bd3fe"), looks := true }, kinds := [], alts := [], laidByText := true, laidKinds := [.data], laidTests := true, laidLooks := .later }
def RegexMeansCardSaid : Prop := Claim7.holds Tryd.pinned (.plain (OpenSpec.ofChange regexMeansSpec)) regexMeansCard

/-- THE SECOND FORM's CARD OF 'trellislaw4.RegexSpares'. -/
def regexSparesUptoCard : Claim7 := { stood := { row := regexSparesUptoRow, standIns := [], harness := (true, "f5a6d0227e1de7c6fb243a4b05e9e3f9f1a920dfe64b2e6c3e7e395aab7bd3fe"), looks := true }, kinds := [], alts := [], laidByText := true, laidKinds := [.data], laidTests := true, laidLooks := .later }
def RegexSparesUptoCardSaid : Prop := Claim7.holds Tryd.pinned (.plain (OpenSpec.upto regexSparesSpec)) regexSparesUptoCard

/-- THE SECOND FORM's CARD OF 'trellislaw4.RegexMeans'. -/
def regexMeansUptoCard : Claim7 := { stood := { row := regexMeansUptoRow, standIns := [], harness := (true, "f5a6d0227e1de7c6fb243a4b05e9e3f9f1a920dfe64b2e6c3e7e395aab7bd3fe"), looks := true }, kinds := [], alts := [], laidByText := true, laidKinds := [.data], laidTests := true, laidLooks := .later }
def RegexMeansUptoCardSaid : Prop := Claim7.holds Tryd.pinned (.plain (OpenSpec.upto regexMeansSpec)) regexMeansUptoCard
end Rows
end Go.Proofs.YtkjcnnecdclgfabDoor
