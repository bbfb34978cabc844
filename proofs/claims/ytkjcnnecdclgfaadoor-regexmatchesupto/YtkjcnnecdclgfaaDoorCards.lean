/-
  DERIVED. GIVEN WITH THE SEED: THE CARDS: each row of YtkjcnnecdclgfaaDoorRows.lean that lists a variable, with what it lists TIED to the program's text (the seventh form; the later family's looks); each row that meets fmt, with fmt's text TOLD by the authors' own Lean function (tested against real Go, not proved from fmt's source: count such statements apart). THE CARD IS WHAT COUNTS. Prove the row's statement (the work); the ties are given (YtkjcnnecdclgfaaDoorTie.lean); close each card by the builder's one call (the guide's Derived/Test/ToyasCard.lean, 'card_holds'). Laid BY PROGRAM, IN A SANDBOX (cutbox-door.mjs). By AI agents, Wed Nov 11 2026. No macro, syntax, notation, axiom, sorry.
-/
import Derived.Test.YtkjcnnecdclgfaaDoorRows
import GoSem.ClaimSeven
namespace Go.Proofs.YtkjcnnecdclgfaaDoor
namespace Rows

/-- THE TIED CARD OF 'trellislaw4.RegexMatches'. -/
def regexMatchesCard : Claim7 := { stood := { row := regexMatchesRow, standIns := [], harness := (true, "54797948c0b28915ff9a75232f550f4dbb83ba03ac9dfb043c7f61a00aae76dc"), looks := true }, kinds := [], alts := [], laidByText := true, laidKinds := [.data], laidTests := true, laidLooks := .later }
def RegexMatchesCardSaid : Prop := Claim7.holds Tryd.pinned (.plain (OpenSpec.ofChange regexMatchesSpec)) regexMatchesCard

/-- THE TIED CARD OF 'trellislaw4.RegexOpens'. -/
def regexOpensCard : Claim7 := { stood := { row := regexOpensRow, standIns := [], harness := (true, "54797948c0b28915ff9a75232f550f4dbb83ba03ac9dfb043c7f61a00aae76dc"), looks := true }, kinds := [], alts := [], laidByText := true, laidKinds := [.data], laidTests := true, laidLooks := .later }
def RegexOpensCardSaid : Prop := Claim7.holds Tryd.pinned (.plain (OpenSpec.ofChange regexOpensSpec)) regexOpensCard

/-- THE TIED CARD OF 'trellislaw4.RegexReads'. -/
def regexReadsCard : Claim7 := { stood := { row := regexReadsRow, standIns := [], harness := (true, "54797948c0b28915ff9a75232f550f4dbb83ba03ac9dfb043c7f61a00aae76dc"), looks := true }, kinds := [], alts := [], laidByText := true, laidKinds := [.data], laidTests := true, laidLooks := .later }
def RegexReadsCardSaid : Prop := Claim7.holds Tryd.pinned (.plain (OpenSpec.ofChange regexReadsSpec)) regexReadsCard

/-- THE TIED CARD OF 'trellislaw4.RegexBack'. -/
def regexBackCard : Claim7 := { stood := { row := regexBackRow, standIns := [], harness := (true, "54797948c0b28915ff9a75232f550f4dbb83ba03ac9dfb043c7f61a00aae76dc"), looks := true }, kinds := [], alts := [], laidByText := true, laidKinds := [.data], laidTests := true, laidLooks := .later }
def RegexBackCardSaid : Prop := Claim7.holds Tryd.pinned (.plain (OpenSpec.ofChange regexBackSpec)) regexBackCard

/-- THE SECOND FORM's CARD OF 'trellislaw4.RegexMatches'. -/
def regexMatchesUptoCard : Claim7 := { stood := { row := regexMatchesUptoRow, standIns := [], harness := (true, "54797948c0b28915ff9a75232f550f4dbb83ba03ac9dfb043c7f61a00aae76dc"), looks := true }, kinds := [], alts := [], laidByText := true, laidKinds := [.data], laidTests := true, laidLooks := .later }
def RegexMatchesUptoCardSaid : Prop := Claim7.holds Tryd.pinned (.plain (OpenSpec.upto regexMatchesSpec)) regexMatchesUptoCard

/-- THE SECOND FORM's CARD OF 'trellislaw4.RegexOpens'. -/
def regexOpensUptoCard : Claim7 := { stood := { row := regexOpensUptoRow, standIns := [], harness := (true, "54797948c0b28915ff9a75232f550f4dbb83ba03ac9dfb043c7f61a00aae76dc"), looks := true }, kinds := [], alts := [], laidByText := true, laidKinds := [.data], laidTests := true, laidLooks := .later }
def RegexOpensUptoCardSaid : Prop := Claim7.holds Tryd.pinned (.plain (OpenSpec.upto regexOpensSpec)) regexOpensUptoCard

/-- THE SECOND FORM's CARD OF 'trellislaw4.RegexReads'. -/
def regexReadsUptoCard : Claim7 := { stood := { row := regexReadsUptoRow, standIns := [], harness := (true, "54797948c0b28915ff9a75232f550f4dbb83ba03ac9dfb043c7f61a00aae76dc"), looks := true }, kinds := [], alts := [], laidByText := true, laidKinds := [.data], laidTests := true, laidLooks := .later }
def RegexReadsUptoCardSaid : Prop := Claim7.holds Tryd.pinned (.plain (OpenSpec.upto regexReadsSpec)) regexReadsUptoCard

/-- THE SECOND FORM's CARD OF 'trellislaw4.RegexBack'. -/
def regexBackUptoCard : Claim7 := { stood := { row := regexBackUptoRow, standIns := [], harness := (true, "54797948c0b28915ff9a75232f550f4dbb83ba03ac9dfb043c7f61a00aae76dc"), looks := true }, kinds := [], alts := [], laidByText := true, laidKinds := [.data], laidTests := true, laidLooks := .later }
def RegexBackUptoCardSaid : Prop := Claim7.holds Tryd.pinned (.plain (OpenSpec.upto regexBackSpec)) regexBackUptoCard
end Rows
end Go.Proofs.YtkjcnnecdclgfaaDoor
