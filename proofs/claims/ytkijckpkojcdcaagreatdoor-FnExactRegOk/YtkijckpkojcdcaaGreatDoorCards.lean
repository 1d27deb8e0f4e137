/-
  DERIVED. GIVEN WITH THE SEED: THE CARDS: each row of YtkijckpkojcdcaaGreatDoorRows.lean that lists a variable, with what it lists TIED to the program's text (the seventh form; the later family's looks); each row that meets fmt, with fmt's text TOLD by the authors' own Lean function (tested against real Go, not proved from fmt's source: count such statements apart). THE CARD IS WHAT COUNTS. Prove the row's statement (the work); the ties are given (YtkijckpkojcdcaaGreatDoorTie.lean); close each card by the builder's one call (the guide's Derived/Test/ToyasCard.lean, 'card_holds'). Laid BY PROGRAM, IN A SANDBOX (cutbox-door.mjs). By AI agents, Wed Nov 11 2026. No macro, syntax, notation, axiom, sorry.
-/
import Derived.Test.YtkijckpkojcdcaaGreatDoorRows
import GoSem.ClaimSeven
namespace Go.Proofs.YtkijckpkojcdcaaGreatDoor
namespace Rows

/-- THE TIED CARD OF 'laws.FnRegs'. -/
def fnRegsCard : Claim7 := { stood := { row := fnRegsRow, standIns := [], harness := (true, "18cd72352e89baefa74a62f468345c426bfe74691dfb9c2b341c0d89f4622282"), looks := true }, kinds := [], alts := [], laidByText := true, laidKinds := [.data, .data, .data, .data, .data, .pinned], laidTests := true, laidLooks := .later }
def FnRegsCardSaid : Prop := Claim7.holds Tryz.pinned (.plain (OpenSpec.ofChange fnRegsSpec)) fnRegsCard

/-- THE TIED CARD OF 'laws.FnExactParseVal'. -/
def fnExactParseValCard : Claim7 := { stood := { row := fnExactParseValRow, standIns := [], harness := (true, "18cd72352e89baefa74a62f468345c426bfe74691dfb9c2b341c0d89f4622282"), looks := true }, kinds := [], alts := [], laidByText := true, laidKinds := [.data, .data, .data, .sentinel, .sentinel], laidTests := true, laidLooks := .later }
def FnExactParseValCardSaid : Prop := Claim7.holds Tryz.pinned (.plain (OpenSpec.ofChange fnExactParseValSpec)) fnExactParseValCard

/-- THE TIED CARD OF 'laws.FnExactRegOk'. -/
def fnExactRegOkCard : Claim7 := { stood := { row := fnExactRegOkRow, standIns := [], harness := (true, "18cd72352e89baefa74a62f468345c426bfe74691dfb9c2b341c0d89f4622282"), looks := true }, kinds := [], alts := [], laidByText := true, laidKinds := [.data, .data, .pinned], laidTests := true, laidLooks := .later }
def FnExactRegOkCardSaid : Prop := Claim7.holds Tryz.pinned (.plain (OpenSpec.ofChange fnExactRegOkSpec)) fnExactRegOkCard

/-- THE TIED CARD OF 'laws.FnExactMayTake'. -/
def fnExactMayTakeCard : Claim7 := { stood := { row := fnExactMayTakeRow, standIns := [], harness := (true, "18cd72352e89baefa74a62f468345c426bfe74691dfb9c2b341c0d89f4622282"), looks := true }, kinds := [], alts := [], laidByText := true, laidKinds := [.data, .data, .pinned], laidTests := true, laidLooks := .later }
def FnExactMayTakeCardSaid : Prop := Claim7.holds Tryz.pinned (.plain (OpenSpec.ofChange fnExactMayTakeSpec)) fnExactMayTakeCard

/-- THE SECOND FORM's CARD OF 'laws.FnRegs'. -/
def fnRegsUptoCard : Claim7 := { stood := { row := fnRegsUptoRow, standIns := [], harness := (true, "18cd72352e89baefa74a62f468345c426bfe74691dfb9c2b341c0d89f4622282"), looks := true }, kinds := [], alts := [], laidByText := true, laidKinds := [.data, .data, .data, .data, .data, .pinned], laidTests := true, laidLooks := .later }
def FnRegsUptoCardSaid : Prop := Claim7.holds Tryz.pinned (.plain (OpenSpec.upto fnRegsSpec)) fnRegsUptoCard

/-- THE SECOND FORM's CARD OF 'laws.FnExactParseVal'. -/
def fnExactParseValUptoCard : Claim7 := { stood := { row := fnExactParseValUptoRow, standIns := [], harness := (true, "18cd72352e89baefa74a62f468345c426bfe74691dfb9c2b341c0d89f4622282"), looks := true }, kinds := [], alts := [], laidByText := true, laidKinds := [.data, .data, .data, .sentinel, .sentinel], laidTests := true, laidLooks := .later }
def FnExactParseValUptoCardSaid : Prop := Claim7.holds Tryz.pinned (.plain (OpenSpec.upto fnExactParseValSpec)) fnExactParseValUptoCard

/-- THE SECOND FORM's CARD OF 'laws.FnExactRegOk'. -/
def fnExactRegOkUptoCard : Claim7 := { stood := { row := fnExactRegOkUptoRow, standIns := [], harness := (true, "18cd72352e89baefa74a62f468345c426bfe74691dfb9c2b341c0d89f4622282"), looks := true }, kinds := [], alts := [], laidByText := true, laidKinds := [.data, .data, .pinned], laidTests := true, laidLooks := .later }
def FnExactRegOkUptoCardSaid : Prop := Claim7.holds Tryz.pinned (.plain (OpenSpec.upto fnExactRegOkSpec)) fnExactRegOkUptoCard

/-- THE SECOND FORM's CARD OF 'laws.FnExactMayTake'. -/
def fnExactMayTakeUptoCard : Claim7 := { stood := { row := fnExactMayTakeUptoRow, standIns := [], harness := (true, "18cd72352e89baefa74a62f468345c426bfe74691dfb9c2b341c0d89f4622282"), looks := true }, kinds := [], alts := [], laidByText := true, laidKinds := [.data, .data, .pinned], laidTests := true, laidLooks := .later }
def FnExactMayTakeUptoCardSaid : Prop := Claim7.holds Tryz.pinned (.plain (OpenSpec.upto fnExactMayTakeSpec)) fnExactMayTakeUptoCard
end Rows
end Go.Proofs.YtkijckpkojcdcaaGreatDoor
