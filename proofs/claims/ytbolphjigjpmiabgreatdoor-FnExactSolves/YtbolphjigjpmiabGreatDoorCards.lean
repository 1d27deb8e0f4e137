/-
  DERIVED. GIVEN WITH THE SEED: THE CARDS: each row of YtbolphjigjpmiabGreatDoorRows.lean that lists a variable, with what it lists TIED to the program's text (the seventh form; the later family's looks); each row that meets fmt, with fmt's text TOLD by the authors' own Lean function (tested against real Go, not proved from fmt's source: count such statements apart). THE CARD IS WHAT COUNTS. Prove the row's statement (the work); the ties are given (YtbolphjigjpmiabGreatDoorTie.lean); close each card by the builder's one call (the guide's Derived/Test/ToyasCard.lean, 'card_holds'). Laid BY PROGRAM, IN A SANDBOX (cutbox-door.mjs). By AI agents, Wed Nov 11 2026. No macro, syntax, notation, axiom, sorry.
-/
import Derived.Test.YtbolphjigjpmiabGreatDoorRows
import GoSem.ClaimSeven
namespace Go.Proofs.YtbolphjigjpmiabGreatDoor
namespace Rows

/-- THE TIED CARD OF 'laws.FnExactSolves'. -/
def fnExactSolvesCard : Claim7 := { stood := { row := fnExactSolvesRow, standIns := [], harness := (true, "06e2af4ca7925426cdb9c973323a393c5af73d34f05dc30a29b7084902029553"), looks := false }, kinds := [], alts := [], laidByText := true, laidKinds := [.data, .data, .data, .data, .data, .pinned], laidTests := true, laidLooks := .later }
def FnExactSolvesCardSaid : Prop := Claim7.holds Tryz.pinned (.plain (OpenSpec.ofChange fnExactSolvesSpec)) fnExactSolvesCard

/-- THE TIED CARD OF 'laws.FnExactSolve'. -/
def fnExactSolveCard : Claim7 := { stood := { row := fnExactSolveRow, standIns := [], harness := (true, "06e2af4ca7925426cdb9c973323a393c5af73d34f05dc30a29b7084902029553"), looks := false }, kinds := [], alts := [], laidByText := true, laidKinds := [.data, .data, .pinned], laidTests := true, laidLooks := .later }
def FnExactSolveCardSaid : Prop := Claim7.holds Tryz.pinned (.plain (OpenSpec.ofChange fnExactSolveSpec)) fnExactSolveCard

/-- THE SECOND FORM's CARD OF 'laws.FnExactSolves'. -/
def fnExactSolvesUptoCard : Claim7 := { stood := { row := fnExactSolvesUptoRow, standIns := [], harness := (true, "06e2af4ca7925426cdb9c973323a393c5af73d34f05dc30a29b7084902029553"), looks := false }, kinds := [], alts := [], laidByText := true, laidKinds := [.data, .data, .data, .data, .data, .pinned], laidTests := true, laidLooks := .later }
def FnExactSolvesUptoCardSaid : Prop := Claim7.holds Tryz.pinned (.plain (OpenSpec.upto fnExactSolvesSpec)) fnExactSolvesUptoCard

/-- THE SECOND FORM's CARD OF 'laws.FnExactSolve'. -/
def fnExactSolveUptoCard : Claim7 := { stood := { row := fnExactSolveUptoRow, standIns := [], harness := (true, "06e2af4ca7925426cdb9c973323a393c5af73d34f05dc30a29b7084902029553"), looks := false }, kinds := [], alts := [], laidByText := true, laidKinds := [.data, .data, .pinned], laidTests := true, laidLooks := .later }
def FnExactSolveUptoCardSaid : Prop := Claim7.holds Tryz.pinned (.plain (OpenSpec.upto fnExactSolveSpec)) fnExactSolveUptoCard
end Rows
end Go.Proofs.YtbolphjigjpmiabGreatDoor
