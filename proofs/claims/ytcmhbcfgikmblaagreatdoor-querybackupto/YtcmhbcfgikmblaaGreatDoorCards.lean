/-
  DERIVED. GIVEN WITH THE SEED: THE CARDS: each row of YtcmhbcfgikmblaaGreatDoorRows.lean that lists a variable, with what it lists TIED to the program's text (the seventh form; the later family's looks); each row that meets fmt, with fmt's text TOLD by the authors' own Lean function (tested against real Go, not proved from fmt's source: count such statements apart). THE CARD IS WHAT COUNTS. Prove the row's statement (the work); the ties are given (YtcmhbcfgikmblaaGreatDoorTie.lean); close each card by the builder's one call (the guide's Derived/Test/ToyasCard.lean, 'card_holds'). Laid BY PROGRAM, IN A SANDBOX (cutbox-door.mjs). By AI agents, Wed Nov 11 2026. No macro, syntax, notation, axiom, sorry.
-/
import Derived.Test.YtcmhbcfgikmblaaGreatDoorRows
import GoSem.ClaimSeven
namespace Go.Proofs.YtcmhbcfgikmblaaGreatDoor
namespace Rows

/-- THE TIED CARD OF 'trellislaw20.QueryCanon'. -/
def queryCanonCard : Claim7 := { stood := { row := queryCanonRow, standIns := [], harness := (true, "090217592a8de15f49716d5e52e9f40de15506ce525ab673261bad6162bd1791"), looks := false }, kinds := [], alts := [], laidByText := true, laidKinds := [.data, .data, .data], laidTests := true, laidLooks := .later }
def QueryCanonCardSaid : Prop := Claim7.holds Tryz.pinned (.plain (OpenSpec.ofChange queryCanonSpec)) queryCanonCard

/-- THE TIED CARD OF 'trellislaw20.QueryHeads'. -/
def queryHeadsCard : Claim7 := { stood := { row := queryHeadsRow, standIns := [], harness := (true, "090217592a8de15f49716d5e52e9f40de15506ce525ab673261bad6162bd1791"), looks := false }, kinds := [], alts := [], laidByText := true, laidKinds := [.data, .data, .data], laidTests := true, laidLooks := .later }
def QueryHeadsCardSaid : Prop := Claim7.holds Tryz.pinned (.plain (OpenSpec.ofChange queryHeadsSpec)) queryHeadsCard

/-- THE TIED CARD OF 'trellislaw20.QueryBack'. -/
def queryBackCard : Claim7 := { stood := { row := queryBackRow, standIns := [], harness := (true, "090217592a8de15f49716d5e52e9f40de15506ce525ab673261bad6162bd1791"), looks := false }, kinds := [], alts := [], laidByText := true, laidKinds := [.data, .data, .data], laidTests := true, laidLooks := .later }
def QueryBackCardSaid : Prop := Claim7.holds Tryz.pinned (.plain (OpenSpec.ofChange queryBackSpec)) queryBackCard

/-- THE SECOND FORM's CARD OF 'trellislaw20.QueryCanon'. -/
def queryCanonUptoCard : Claim7 := { stood := { row := queryCanonUptoRow, standIns := [], harness := (true, "090217592a8de15f49716d5e52e9f40de15506ce525ab673261bad6162bd1791"), looks := false }, kinds := [], alts := [], laidByText := true, laidKinds := [.data, .data, .data], laidTests := true, laidLooks := .later }
def QueryCanonUptoCardSaid : Prop := Claim7.holds Tryz.pinned (.plain (OpenSpec.upto queryCanonSpec)) queryCanonUptoCard

/-- THE SECOND FORM's CARD OF 'trellislaw20.QueryHeads'. -/
def queryHeadsUptoCard : Claim7 := { stood := { row := queryHeadsUptoRow, standIns := [], harness := (true, "090217592a8de15f49716d5e52e9f40de15506ce525ab673261bad6162bd1791"), looks := false }, kinds := [], alts := [], laidByText := true, laidKinds := [.data, .data, .data], laidTests := true, laidLooks := .later }
def QueryHeadsUptoCardSaid : Prop := Claim7.holds Tryz.pinned (.plain (OpenSpec.upto queryHeadsSpec)) queryHeadsUptoCard

/-- THE SECOND FORM's CARD OF 'trellislaw20.QueryBack'. -/
def queryBackUptoCard : Claim7 := { stood := { row := queryBackUptoRow, standIns := [], harness := (true, "090217592a8de15f49716d5e52e9f40de15506ce525ab673261bad6162bd1791"), looks := false }, kinds := [], alts := [], laidByText := true, laidKinds := [.data, .data, .data], laidTests := true, laidLooks := .later }
def QueryBackUptoCardSaid : Prop := Claim7.holds Tryz.pinned (.plain (OpenSpec.upto queryBackSpec)) queryBackUptoCard
end Rows
end Go.Proofs.YtcmhbcfgikmblaaGreatDoor
