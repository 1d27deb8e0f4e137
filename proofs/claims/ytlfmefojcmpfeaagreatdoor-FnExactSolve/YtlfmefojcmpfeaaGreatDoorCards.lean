/-
  DERIVED. GIVEN WITH THE SEED: THE CARDS: each row of YtlfmefojcmpfeaaGreatDoorRows.lean that lists a variable, with what it lists TIED to the program's text (the seventh form; the later family's looks); each row that meets fmt, with fmt's text TOLD by the authors' own Lean function (tested against real Go, not proved from fmt's source: count such statements apart). THE CARD IS WHAT COUNTS. Prove the row's statement (the work); the ties are given (YtlfmefojcmpfeaaGreatDoorTie.lean); close each card by the builder's one call (the guide's Derived/Test/ToyasCard.lean, 'card_holds'). Laid BY PROGRAM, IN A SANDBOX (cutbox-door.mjs). By AI agents, Wed Nov 11 2026. No macro, syntax, notation, axiom, sorry.
-/
import Derived.Test.YtlfmefojcmpfeaaGreatDoorRows
import GoSem.ClaimSeven
namespace Go.Proofs.YtlfmefojcmpfeaaGreatDoor
namespace Rows

/-- THE TIED CARD OF 'laws.FnRegs'. -/
def fnRegsCard : Claim7 := { stood := { row := fnRegsRow, standIns := [], harness := (true, "3e311a6b2fc1b2769e94b91cb4e9e7329137b6b09982a346a7d5c235fd92a028"), looks := true }, kinds := [], alts := [], laidByText := true, laidKinds := [.data, .data, .data, .data, .data, .pinned], laidTests := true, laidLooks := .later }
def FnRegsCardSaid : Prop := Claim7.holds Tryz.pinned (.plain (OpenSpec.ofChange fnRegsSpec)) fnRegsCard

/-- THE TIED CARD OF 'laws.FnSolved'. -/
def fnSolvedCard : Claim7 := { stood := { row := fnSolvedRow, standIns := [], harness := (true, "3e311a6b2fc1b2769e94b91cb4e9e7329137b6b09982a346a7d5c235fd92a028"), looks := true }, kinds := [], alts := [], laidByText := true, laidKinds := [.data, .data, .data, .data, .data, .pinned], laidTests := true, laidLooks := .later }
def FnSolvedCardSaid : Prop := Claim7.holds Tryz.pinned (.plain (OpenSpec.ofChange fnSolvedSpec)) fnSolvedCard

/-- THE TIED CARD OF 'laws.FnNewest'. -/
def fnNewestCard : Claim7 := { stood := { row := fnNewestRow, standIns := [], harness := (true, "3e311a6b2fc1b2769e94b91cb4e9e7329137b6b09982a346a7d5c235fd92a028"), looks := true }, kinds := [], alts := [], laidByText := true, laidKinds := [.data, .data, .pinned], laidTests := true, laidLooks := .later }
def FnNewestCardSaid : Prop := Claim7.holds Tryz.pinned (.plain (OpenSpec.ofChange fnNewestSpec)) fnNewestCard

/-- THE TIED CARD OF 'laws.FnComplete'. -/
def fnCompleteCard : Claim7 := { stood := { row := fnCompleteRow, standIns := [], harness := (true, "3e311a6b2fc1b2769e94b91cb4e9e7329137b6b09982a346a7d5c235fd92a028"), looks := true }, kinds := [], alts := [], laidByText := true, laidKinds := [.data, .data, .pinned], laidTests := true, laidLooks := .later }
def FnCompleteCardSaid : Prop := Claim7.holds Tryz.pinned (.plain (OpenSpec.ofChange fnCompleteSpec)) fnCompleteCard

/-- THE TIED CARD OF 'laws.FnSolvesBent'. -/
def fnSolvesBentCard : Claim7 := { stood := { row := fnSolvesBentRow, standIns := [], harness := (true, "3e311a6b2fc1b2769e94b91cb4e9e7329137b6b09982a346a7d5c235fd92a028"), looks := true }, kinds := [], alts := [], laidByText := true, laidKinds := [.data, .data, .data, .data, .data, .pinned], laidTests := true, laidLooks := .later }
def FnSolvesBentCardSaid : Prop := Claim7.holds Tryz.pinned (.plain (OpenSpec.ofChange fnSolvesBentSpec)) fnSolvesBentCard

/-- THE TIED CARD OF 'laws.FnLocks'. -/
def fnLocksCard : Claim7 := { stood := { row := fnLocksRow, standIns := [], harness := (true, "3e311a6b2fc1b2769e94b91cb4e9e7329137b6b09982a346a7d5c235fd92a028"), looks := true }, kinds := [], alts := [], laidByText := true, laidKinds := [.data, .data, .data, .data, .handle, .data, .pinned], laidTests := true, laidLooks := .later }
def FnLocksCardSaid : Prop := Claim7.holds Tryz.pinned (.plain (OpenSpec.ofChange fnLocksSpec)) fnLocksCard

/-- THE TIED CARD OF 'laws.FnExactSolve'. -/
def fnExactSolveCard : Claim7 := { stood := { row := fnExactSolveRow, standIns := [], harness := (true, "3e311a6b2fc1b2769e94b91cb4e9e7329137b6b09982a346a7d5c235fd92a028"), looks := true }, kinds := [], alts := [], laidByText := true, laidKinds := [.data, .data, .pinned], laidTests := true, laidLooks := .later }
def FnExactSolveCardSaid : Prop := Claim7.holds Tryz.pinned (.plain (OpenSpec.ofChange fnExactSolveSpec)) fnExactSolveCard

/-- THE TIED CARD OF 'laws.FnExactStale'. -/
def fnExactStaleCard : Claim7 := { stood := { row := fnExactStaleRow, standIns := [], harness := (true, "3e311a6b2fc1b2769e94b91cb4e9e7329137b6b09982a346a7d5c235fd92a028"), looks := true }, kinds := [], alts := [], laidByText := true, laidKinds := [.data, .data, .data, .data, .handle, .data, .pinned], laidTests := true, laidLooks := .later }
def FnExactStaleCardSaid : Prop := Claim7.holds Tryz.pinned (.plain (OpenSpec.ofChange fnExactStaleSpec)) fnExactStaleCard

/-- THE TIED CARD OF 'laws.FnExactRenewed'. -/
def fnExactRenewedCard : Claim7 := { stood := { row := fnExactRenewedRow, standIns := [], harness := (true, "3e311a6b2fc1b2769e94b91cb4e9e7329137b6b09982a346a7d5c235fd92a028"), looks := true }, kinds := [], alts := [], laidByText := true, laidKinds := [.data, .data, .data, .data, .handle, .data, .pinned], laidTests := true, laidLooks := .later }
def FnExactRenewedCardSaid : Prop := Claim7.holds Tryz.pinned (.plain (OpenSpec.ofChange fnExactRenewedSpec)) fnExactRenewedCard

/-- THE SECOND FORM's CARD OF 'laws.FnRegs'. -/
def fnRegsUptoCard : Claim7 := { stood := { row := fnRegsUptoRow, standIns := [], harness := (true, "3e311a6b2fc1b2769e94b91cb4e9e7329137b6b09982a346a7d5c235fd92a028"), looks := true }, kinds := [], alts := [], laidByText := true, laidKinds := [.data, .data, .data, .data, .data, .pinned], laidTests := true, laidLooks := .later }
def FnRegsUptoCardSaid : Prop := Claim7.holds Tryz.pinned (.plain (OpenSpec.upto fnRegsSpec)) fnRegsUptoCard

/-- THE SECOND FORM's CARD OF 'laws.FnSolved'. -/
def fnSolvedUptoCard : Claim7 := { stood := { row := fnSolvedUptoRow, standIns := [], harness := (true, "3e311a6b2fc1b2769e94b91cb4e9e7329137b6b09982a346a7d5c235fd92a028"), looks := true }, kinds := [], alts := [], laidByText := true, laidKinds := [.data, .data, .data, .data, .data, .pinned], laidTests := true, laidLooks := .later }
def FnSolvedUptoCardSaid : Prop := Claim7.holds Tryz.pinned (.plain (OpenSpec.upto fnSolvedSpec)) fnSolvedUptoCard

/-- THE SECOND FORM's CARD OF 'laws.FnNewest'. -/
def fnNewestUptoCard : Claim7 := { stood := { row := fnNewestUptoRow, standIns := [], harness := (true, "3e311a6b2fc1b2769e94b91cb4e9e7329137b6b09982a346a7d5c235fd92a028"), looks := true }, kinds := [], alts := [], laidByText := true, laidKinds := [.data, .data, .pinned], laidTests := true, laidLooks := .later }
def FnNewestUptoCardSaid : Prop := Claim7.holds Tryz.pinned (.plain (OpenSpec.upto fnNewestSpec)) fnNewestUptoCard

/-- THE SECOND FORM's CARD OF 'laws.FnComplete'. -/
def fnCompleteUptoCard : Claim7 := { stood := { row := fnCompleteUptoRow, standIns := [], harness := (true, "3e311a6b2fc1b2769e94b91cb4e9e7329137b6b09982a346a7d5c235fd92a028"), looks := true }, kinds := [], alts := [], laidByText := true, laidKinds := [.data, .data, .pinned], laidTests := true, laidLooks := .later }
def FnCompleteUptoCardSaid : Prop := Claim7.holds Tryz.pinned (.plain (OpenSpec.upto fnCompleteSpec)) fnCompleteUptoCard

/-- THE SECOND FORM's CARD OF 'laws.FnSolvesBent'. -/
def fnSolvesBentUptoCard : Claim7 := { stood := { row := fnSolvesBentUptoRow, standIns := [], harness := (true, "3e311a6b2fc1b2769e94b91cb4e9e7329137b6b09982a346a7d5c235fd92a028"), looks := true }, kinds := [], alts := [], laidByText := true, laidKinds := [.data, .data, .data, .data, .data, .pinned], laidTests := true, laidLooks := .later }
def FnSolvesBentUptoCardSaid : Prop := Claim7.holds Tryz.pinned (.plain (OpenSpec.upto fnSolvesBentSpec)) fnSolvesBentUptoCard

/-- THE SECOND FORM's CARD OF 'laws.FnLocks'. -/
def fnLocksUptoCard : Claim7 := { stood := { row := fnLocksUptoRow, standIns := [], harness := (true, "3e311a6b2fc1b2769e94b91cb4e9e7329137b6b09982a346a7d5c235fd92a028"), looks := true }, kinds := [], alts := [], laidByText := true, laidKinds := [.data, .data, .data, .data, .handle, .data, .pinned], laidTests := true, laidLooks := .later }
def FnLocksUptoCardSaid : Prop := Claim7.holds Tryz.pinned (.plain (OpenSpec.upto fnLocksSpec)) fnLocksUptoCard

/-- THE SECOND FORM's CARD OF 'laws.FnExactSolve'. -/
def fnExactSolveUptoCard : Claim7 := { stood := { row := fnExactSolveUptoRow, standIns := [], harness := (true, "3e311a6b2fc1b2769e94b91cb4e9e7329137b6b09982a346a7d5c235fd92a028"), looks := true }, kinds := [], alts := [], laidByText := true, laidKinds := [.data, .data, .pinned], laidTests := true, laidLooks := .later }
def FnExactSolveUptoCardSaid : Prop := Claim7.holds Tryz.pinned (.plain (OpenSpec.upto fnExactSolveSpec)) fnExactSolveUptoCard

/-- THE SECOND FORM's CARD OF 'laws.FnExactStale'. -/
def fnExactStaleUptoCard : Claim7 := { stood := { row := fnExactStaleUptoRow, standIns := [], harness := (true, "3e311a6b2fc1b2769e94b91cb4e9e7329137b6b09982a346a7d5c235fd92a028"), looks := true }, kinds := [], alts := [], laidByText := true, laidKinds := [.data, .data, .data, .data, .handle, .data, .pinned], laidTests := true, laidLooks := .later }
def FnExactStaleUptoCardSaid : Prop := Claim7.holds Tryz.pinned (.plain (OpenSpec.upto fnExactStaleSpec)) fnExactStaleUptoCard

/-- THE SECOND FORM's CARD OF 'laws.FnExactRenewed'. -/
def fnExactRenewedUptoCard : Claim7 := { stood := { row := fnExactRenewedUptoRow, standIns := [], harness := (true, "3e311a6b2fc1b2769e94b91cb4e9e7329137b6b09982a346a7d5c235fd92a028"), looks := true }, kinds := [], alts := [], laidByText := true, laidKinds := [.data, .data, .data, .data, .handle, .data, .pinned], laidTests := true, laidLooks := .later }
def FnExactRenewedUptoCardSaid : Prop := Claim7.holds Tryz.pinned (.plain (OpenSpec.upto fnExactRenewedSpec)) fnExactRenewedUptoCard
end Rows
end Go.Proofs.YtlfmefojcmpfeaaGreatDoor
