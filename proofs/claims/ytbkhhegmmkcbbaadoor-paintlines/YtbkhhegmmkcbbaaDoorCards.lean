/-
  DERIVED. GIVEN WITH THE SEED: THE CARDS: each row of YtbkhhegmmkcbbaaDoorRows.lean that lists a variable, with what it lists TIED to the program's text (the seventh form; the later family's looks); each row that meets fmt, with fmt's text TOLD by the authors' own Lean function (tested against real Go, not proved from fmt's source: count such statements apart). THE CARD IS WHAT COUNTS. Prove the row's statement (the work); the ties are given (YtbkhhegmmkcbbaaDoorTie.lean); close each card by the builder's one call (the guide's Derived/Test/ToyasCard.lean, 'card_holds'). Laid BY PROGRAM, IN A SANDBOX (cutbox-door.mjs). By AI agents, Wed Nov 11 2026. No macro, syntax, notation, axiom, sorry.
-/
import Derived.Test.YtbkhhegmmkcbbaaDoorRows
import GoSem.ClaimSeven
namespace Go.Proofs.YtbkhhegmmkcbbaaDoor
namespace Rows

/-- THE TIED CARD OF 'trellislaw21.PaintLines'. -/
def paintLinesCard : Claim7 := { stood := { row := paintLinesRow, standIns := [], harness := (true, "5928e1539bdc9a817a3b856d80363bff2812f3c9cc13eff973beb7630475de96"), looks := false }, kinds := [], alts := [], laidByText := true, laidKinds := [.data, .data, .data], laidTests := true, laidLooks := .later }
def PaintLinesCardSaid : Prop := Claim7.holds Tryd.pinned (.plain (OpenSpec.ofChange paintLinesSpec)) paintLinesCard

/-- THE SECOND FORM's CARD OF 'trellislaw21.PaintLines'. -/
def paintLinesUptoCard : Claim7 := { stood := { row := paintLinesUptoRow, standIns := [], harness := (true, "5928e1539bdc9a817a3b856d80363bff2812f3c9cc13eff973beb7630475de96"), looks := false }, kinds := [], alts := [], laidByText := true, laidKinds := [.data, .data, .data], laidTests := true, laidLooks := .later }
def PaintLinesUptoCardSaid : Prop := Claim7.holds Tryd.pinned (.plain (OpenSpec.upto paintLinesSpec)) paintLinesUptoCard
end Rows
end Go.Proofs.YtbkhhegmmkcbbaaDoor
