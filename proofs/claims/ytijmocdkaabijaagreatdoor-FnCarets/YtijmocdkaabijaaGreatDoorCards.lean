/-
  DERIVED. GIVEN WITH THE SEED: THE CARDS: each row of YtijmocdkaabijaaGreatDoorRows.lean that lists a variable, with what it lists TIED to the program's text (the seventh form; the later family's looks); each row that meets fmt, with fmt's text TOLD by the authors' own Lean function (tested against real Go, not proved from fmt's source: count such statements apart). THE CARD IS WHAT COUNTS. Prove the row's statement (the work); the ties are given (YtijmocdkaabijaaGreatDoorTie.lean); close each card by the builder's one call (the guide's Derived/Test/ToyasCard.lean, 'card_holds'). Laid BY PROGRAM, IN A SANDBOX (cutbox-door.mjs). By AI agents, Wed Nov 11 2026. No macro, syntax, notation, axiom, sorry.
-/
import Derived.Test.YtijmocdkaabijaaGreatDoorRows
import GoSem.ClaimSeven
namespace Go.Proofs.YtijmocdkaabijaaGreatDoor
namespace Rows

/-- THE TIED CARD OF 'laws.FnCarets'. -/
def fnCaretsCard : Claim7 := { stood := { row := fnCaretsRow, standIns := [], harness := (true, "38002f6461cfdf66d578b108fe8fae7c3b44caf3401f90da715f07d1c9615766"), looks := true }, kinds := [], alts := [], laidByText := true, laidKinds := [.data, .data, .data, .data, .data, .pinned], laidTests := true, laidLooks := .later }
def FnCaretsCardSaid : Prop := Claim7.holds Tryz.pinned (.plain (OpenSpec.ofChange fnCaretsSpec)) fnCaretsCard

/-- THE TIED CARD OF 'laws.FnExactParseVal'. -/
def fnExactParseValCard : Claim7 := { stood := { row := fnExactParseValRow, standIns := [], harness := (true, "38002f6461cfdf66d578b108fe8fae7c3b44caf3401f90da715f07d1c9615766"), looks := true }, kinds := [], alts := [], laidByText := true, laidKinds := [.data, .data, .data, .sentinel, .sentinel], laidTests := true, laidLooks := .later }
def FnExactParseValCardSaid : Prop := Claim7.holds Tryz.pinned (.plain (OpenSpec.ofChange fnExactParseValSpec)) fnExactParseValCard

/-- THE SECOND FORM's CARD OF 'laws.FnCarets'. -/
def fnCaretsUptoCard : Claim7 := { stood := { row := fnCaretsUptoRow, standIns := [], harness := (true, "38002f6461cfdf66d578b108fe8fae7c3b44caf3401f90da715f07d1c9615766"), looks := true }, kinds := [], alts := [], laidByText := true, laidKinds := [.data, .data, .data, .data, .data, .pinned], laidTests := true, laidLooks := .later }
def FnCaretsUptoCardSaid : Prop := Claim7.holds Tryz.pinned (.plain (OpenSpec.upto fnCaretsSpec)) fnCaretsUptoCard

/-- THE SECOND FORM's CARD OF 'laws.FnExactParseVal'. -/
def fnExactParseValUptoCard : Claim7 := { stood := { row := fnExactParseValUptoRow, standIns := [], harness := (true, "38002f6461cfdf66d578b108fe8fae7c3b44caf3401f90da715f07d1c9615766"), looks := true }, kinds := [], alts := [], laidByText := true, laidKinds := [.data, .data, .data, .sentinel, .sentinel], laidTests := true, laidLooks := .later }
def FnExactParseValUptoCardSaid : Prop := Claim7.holds Tryz.pinned (.plain (OpenSpec.upto fnExactParseValSpec)) fnExactParseValUptoCard
end Rows
end Go.Proofs.YtijmocdkaabijaaGreatDoor
