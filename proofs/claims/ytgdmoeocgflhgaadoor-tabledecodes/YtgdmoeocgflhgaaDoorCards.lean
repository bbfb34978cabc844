/-
  DERIVED. GIVEN WITH THE SEED: THE CARDS: each row of YtgdmoeocgflhgaaDoorRows.lean that lists a variable, with what it lists TIED to the program's text (the seventh form; the later family's looks); each row that meets fmt, with fmt's text TOLD by the authors' own Lean function (tested against real Go, not proved from fmt's source: count such statements apart). THE CARD IS WHAT COUNTS. Prove the row's statement (the work); the ties are given (YtgdmoeocgflhgaaDoorTie.lean); close each card by the builder's one call (the guide's Derived/Test/ToyasCard.lean, 'card_holds'). Laid BY PROGRAM, IN A SANDBOX (cutbox-door.mjs). By AI agents, Wed Nov 11 2026. No macro, syntax, notation, axiom, sorry.
-/
import Derived.Test.YtgdmoeocgflhgaaDoorRows
import GoSem.ClaimSeven
namespace Go.Proofs.YtgdmoeocgflhgaaDoor
namespace Rows

/-- THE TIED CARD OF 'trellislaw13.TableDecodes'. -/
def tableDecodesCard : Claim7 := { stood := { row := tableDecodesRow, standIns := [], harness := (true, "48a4dde3caa49502097c14fddea43e9e39256d48d0cde99c11cfb64fee25847f"), looks := true }, kinds := [], alts := [], laidByText := true, laidKinds := [.handle, .sentinel], laidTests := true, laidLooks := .later }
def TableDecodesCardSaid : Prop := Claim7.holds Tryd.pinned (.plain (OpenSpec.ofChange tableDecodesSpec)) tableDecodesCard

/-- THE SECOND FORM's CARD OF 'trellislaw13.TableDecodes'. -/
def tableDecodesUptoCard : Claim7 := { stood := { row := tableDecodesUptoRow, standIns := [], harness := (true, "48a4dde3caa49502097c14fddea43e9e39256d48d0cde99c11cfb64fee25847f"), looks := true }, kinds := [], alts := [], laidByText := true, laidKinds := [.handle, .sentinel], laidTests := true, laidLooks := .later }
def TableDecodesUptoCardSaid : Prop := Claim7.holds Tryd.pinned (.plain (OpenSpec.upto tableDecodesSpec)) tableDecodesUptoCard
end Rows
end Go.Proofs.YtgdmoeocgflhgaaDoor
