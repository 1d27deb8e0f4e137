/-
  DERIVED. GIVEN WITH THE SEED: THE CARDS: each row of YtdiopkegaeliaaaDoorRows.lean that lists a variable, with what it lists TIED to the program's text (the seventh form; the later family's looks); each row that meets fmt, with fmt's text TOLD by the authors' own Lean function (tested against real Go, not proved from fmt's source: count such statements apart). THE CARD IS WHAT COUNTS. Prove the row's statement (the work); the ties are given (YtdiopkegaeliaaaDoorTie.lean); close each card by the builder's one call (the guide's Derived/Test/ToyasCard.lean, 'card_holds'). Laid BY PROGRAM, IN A SANDBOX (cutbox-door.mjs). By AI agents, Wed Nov 11 2026. No macro, syntax, notation, axiom, sorry.
-/
import Derived.Test.YtdiopkegaeliaaaDoorRows
import GoSem.ClaimSeven
namespace Go.Proofs.YtdiopkegaeliaaaDoor
namespace Rows

/-- THE TIED CARD OF 'laws.FnExactFilterOk'. -/
def fnExactFilterOkCard : Claim7 := { stood := { row := fnExactFilterOkRow, standIns := [], harness := (true, "6fc80aed2b6f70b3df0b50b88957e160440b7667811e42a76e1d635d18577b63"), looks := false }, kinds := [], alts := [], laidByText := true, laidKinds := [.data, .pinned], laidTests := true, laidLooks := .later }
def FnExactFilterOkCardSaid : Prop := Claim7.holds Tryd.pinned (.plain (OpenSpec.ofChange fnExactFilterOkSpec)) fnExactFilterOkCard

/-- THE SECOND FORM's CARD OF 'laws.FnExactFilterOk'. -/
def fnExactFilterOkUptoCard : Claim7 := { stood := { row := fnExactFilterOkUptoRow, standIns := [], harness := (true, "6fc80aed2b6f70b3df0b50b88957e160440b7667811e42a76e1d635d18577b63"), looks := false }, kinds := [], alts := [], laidByText := true, laidKinds := [.data, .pinned], laidTests := true, laidLooks := .later }
def FnExactFilterOkUptoCardSaid : Prop := Claim7.holds Tryd.pinned (.plain (OpenSpec.upto fnExactFilterOkSpec)) fnExactFilterOkUptoCard
end Rows
end Go.Proofs.YtdiopkegaeliaaaDoor
