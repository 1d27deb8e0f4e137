/-
  DERIVED. GIVEN WITH THE SEED: THE CARDS: each row of YtlnofdlhjeomfaaGreatDoorRows.lean that lists a variable, with what it lists TIED to the program's text (the seventh form; the later family's looks); each row that meets fmt, with fmt's text TOLD by the authors' own Lean function (tested against real Go, not proved from fmt's source: count such statements apart). THE CARD IS WHAT COUNTS. Prove the row's statement (the work); the ties are given (YtlnofdlhjeomfaaGreatDoorTie.lean); close each card by the builder's one call (the guide's Derived/Test/ToyasCard.lean, 'card_holds'). Laid BY PROGRAM, IN A SANDBOX (cutbox-door.mjs). By AI agents, Wed Nov 11 2026. No macro, syntax, notation, axiom, sorry.
-/
import Derived.Test.YtlnofdlhjeomfaaGreatDoorRows
import GoSem.ClaimSeven
namespace Go.Proofs.YtlnofdlhjeomfaaGreatDoor
namespace Rows

/-- THE TIED CARD OF 'laws.FnExactParseVal'. -/
def fnExactParseValCard : Claim7 := { stood := { row := fnExactParseValRow, standIns := [], harness := (true, "bf39ebc04c170cf5475fc006a43228c2928280c3d6be5d0249e98e0f12f2d340"), looks := true }, kinds := [], alts := [], laidByText := true, laidKinds := [.data, .data, .data, .sentinel, .sentinel], laidTests := true, laidLooks := .later }
def FnExactParseValCardSaid : Prop := Claim7.holds Tryz.pinned (.plain (OpenSpec.ofChange fnExactParseValSpec)) fnExactParseValCard

/-- THE TIED CARD OF 'laws.FnExactPackOf'. -/
def fnExactPackOfCard : Claim7 := { stood := { row := fnExactPackOfRow, standIns := [], harness := (true, "bf39ebc04c170cf5475fc006a43228c2928280c3d6be5d0249e98e0f12f2d340"), looks := true }, kinds := [], alts := [], laidByText := true, laidKinds := [.data, .data, .sentinel, .pinned], laidTests := true, laidLooks := .later }
def FnExactPackOfCardSaid : Prop := Claim7.holds Tryz.pinned (.plain (OpenSpec.ofChange fnExactPackOfSpec)) fnExactPackOfCard

/-- THE TIED CARD OF 'laws.FnExactPacksOk'. -/
def fnExactPacksOkCard : Claim7 := { stood := { row := fnExactPacksOkRow, standIns := [], harness := (true, "bf39ebc04c170cf5475fc006a43228c2928280c3d6be5d0249e98e0f12f2d340"), looks := true }, kinds := [], alts := [], laidByText := true, laidKinds := [.data, .data, .pinned], laidTests := true, laidLooks := .later }
def FnExactPacksOkCardSaid : Prop := Claim7.holds Tryz.pinned (.plain (OpenSpec.ofChange fnExactPacksOkSpec)) fnExactPacksOkCard

/-- THE SECOND FORM's CARD OF 'laws.FnExactParseVal'. -/
def fnExactParseValUptoCard : Claim7 := { stood := { row := fnExactParseValUptoRow, standIns := [], harness := (true, "bf39ebc04c170cf5475fc006a43228c2928280c3d6be5d0249e98e0f12f2d340"), looks := true }, kinds := [], alts := [], laidByText := true, laidKinds := [.data, .data, .data, .sentinel, .sentinel], laidTests := true, laidLooks := .later }
def FnExactParseValUptoCardSaid : Prop := Claim7.holds Tryz.pinned (.plain (OpenSpec.upto fnExactParseValSpec)) fnExactParseValUptoCard

/-- THE SECOND FORM's CARD OF 'laws.FnExactPackOf'. -/
def fnExactPackOfUptoCard : Claim7 := { stood := { row := fnExactPackOfUptoRow, standIns := [], harness := (true, "bf39ebc04c170cf5475fc006a43228c2928280c3d6be5d0249e98e0f12f2d340"), looks := true }, kinds := [], alts := [], laidByText := true, laidKinds := [.data, .data, .sentinel, .pinned], laidTests := true, laidLooks := .later }
def FnExactPackOfUptoCardSaid : Prop := Claim7.holds Tryz.pinned (.plain (OpenSpec.upto fnExactPackOfSpec)) fnExactPackOfUptoCard

/-- THE SECOND FORM's CARD OF 'laws.FnExactPacksOk'. -/
def fnExactPacksOkUptoCard : Claim7 := { stood := { row := fnExactPacksOkUptoRow, standIns := [], harness := (true, "bf39ebc04c170cf5475fc006a43228c2928280c3d6be5d0249e98e0f12f2d340"), looks := true }, kinds := [], alts := [], laidByText := true, laidKinds := [.data, .data, .pinned], laidTests := true, laidLooks := .later }
def FnExactPacksOkUptoCardSaid : Prop := Claim7.holds Tryz.pinned (.plain (OpenSpec.upto fnExactPacksOkSpec)) fnExactPacksOkUptoCard
end Rows
end Go.Proofs.YtlnofdlhjeomfaaGreatDoor
