/-
  DERIVED. GIVEN WITH THE SEED: THE CARDS: each row of YtcmhbcfgikmblabGreatDoorRows.lean that lists a variable, with what it lists TIED to the program's text (the seventh form; the later family's looks); each row that meets fmt, with fmt's text TOLD by the authors' own Lean function (tested against real Go, not proved from fmt's source: count such statements apart). THE CARD IS WHAT COUNTS. Prove the row's statement (the work); the ties are given (YtcmhbcfgikmblabGreatDoorTie.lean); close each card by the builder's one call (the guide's Derived/Test/ToyasCard.lean, 'card_holds'). Laid BY PROGRAM, IN A SANDBOX (cutbox-door.mjs). By AI agents, Wed Nov 11 2026. No macro, syntax, notation, axiom, sorry.
-/
import Derived.Test.YtcmhbcfgikmblabGreatDoorRows
import GoSem.ClaimSeven
namespace Go.Proofs.YtcmhbcfgikmblabGreatDoor
namespace Rows

/-- THE TIED CARD OF 'trellislaw20.QueryConds'. -/
def queryCondsCard : Claim7 := { stood := { row := queryCondsRow, standIns := [], harness := (true, "bf729865a9724951a2d8546d9d6cf622a00b240cd343dcf7c2957b452a85f82d"), looks := false }, kinds := [], alts := [], laidByText := true, laidKinds := [.data, .data, .data], laidTests := true, laidLooks := .later }
def QueryCondsCardSaid : Prop := Claim7.holds Tryz.pinned (.plain (OpenSpec.ofChange queryCondsSpec)) queryCondsCard

/-- THE TIED CARD OF 'trellislaw20.QueryParts'. -/
def queryPartsCard : Claim7 := { stood := { row := queryPartsRow, standIns := [], harness := (true, "bf729865a9724951a2d8546d9d6cf622a00b240cd343dcf7c2957b452a85f82d"), looks := false }, kinds := [], alts := [], laidByText := true, laidKinds := [.data, .data, .data], laidTests := true, laidLooks := .later }
def QueryPartsCardSaid : Prop := Claim7.holds Tryz.pinned (.plain (OpenSpec.ofChange queryPartsSpec)) queryPartsCard

/-- THE SECOND FORM's CARD OF 'trellislaw20.QueryConds'. -/
def queryCondsUptoCard : Claim7 := { stood := { row := queryCondsUptoRow, standIns := [], harness := (true, "bf729865a9724951a2d8546d9d6cf622a00b240cd343dcf7c2957b452a85f82d"), looks := false }, kinds := [], alts := [], laidByText := true, laidKinds := [.data, .data, .data], laidTests := true, laidLooks := .later }
def QueryCondsUptoCardSaid : Prop := Claim7.holds Tryz.pinned (.plain (OpenSpec.upto queryCondsSpec)) queryCondsUptoCard

/-- THE SECOND FORM's CARD OF 'trellislaw20.QueryParts'. -/
def queryPartsUptoCard : Claim7 := { stood := { row := queryPartsUptoRow, standIns := [], harness := (true, "bf729865a9724951a2d8546d9d6cf622a00b240cd343dcf7c2957b452a85f82d"), looks := false }, kinds := [], alts := [], laidByText := true, laidKinds := [.data, .data, .data], laidTests := true, laidLooks := .later }
def QueryPartsUptoCardSaid : Prop := Claim7.holds Tryz.pinned (.plain (OpenSpec.upto queryPartsSpec)) queryPartsUptoCard
end Rows
end Go.Proofs.YtcmhbcfgikmblabGreatDoor
