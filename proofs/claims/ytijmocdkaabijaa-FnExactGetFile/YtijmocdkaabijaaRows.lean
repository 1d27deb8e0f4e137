/-
  No cell of these rows narrows 'for every input' (looked for: loops, veiled, ifaces, maps, wideKeys, modest, calm, conditions, laid).
  DERIVED. THE GIVEN ROWS OF THIS SEAT. 5 by the template 'for every input the law returns true; each argument reads behind the call as it read before'; 0 by the template 'total and deterministic' (their statements: YtijmocdkaabijaaTotals.lean).
  GIVEN WITH THE SEED: the statements are not yours to turn. If you find one false, say at which input.
  Laid BY PROGRAM, IN A SANDBOX (cutbox-rows.mjs): the forced cells as the released guide's own fill.sh prints them over the translation 5352a4611ad38bad… (all of the seat's roots in one cut). By AI agents, Wed Nov 11 2026. No macro, syntax, notation, axiom, sorry.
-/
import Derived.Test.YtijmocdkaabijaaChecked
import GoSem.Claim
import GoSem.ClaimJoined
import GoSem.ClaimMapViews
import Derived.JoinedTies
import Derived.KernelRfl
namespace Go.Proofs.Ytijmocdkaabijaa
/- THE CELL 'sum', in the pinned program and in every row, IS THE sha256 OF THE DUMP (.gsa) THAT YtijmocdkaabijaaProg.lean LOADS. Nothing in Lean hashes anything: it is a label: what it is worth is what the hold of that sum in a sandbox is worth. -/
noncomputable def Try.pinned : Pinned := { name := "ytijmocdkaabijaa", sum := "5352a4611ad38badfd19c7b12cf404cdd28c80fb731c7220376d533ff26d1033", checked := Try.checked }
namespace Rows
def none {H : Type} : Left H := { results := [], args := [] }

/-- 'laws.FnFiles': WHATEVER THE INPUT: true; the input reads as it did. -/
def fnFilesSpec : ChangeSpec := { name := "fnFiles", fn := fun _ => fun
  | [d] => { results := [.lit (.bool true)], args := [d] }
  | _ => none }
def fnFilesRow : OpenClaim := { program := "ytijmocdkaabijaa", sum := "5352a4611ad38badfd19c7b12cf404cdd28c80fb731c7220376d533ff26d1033", func := "loop.example/g00464/laws.FnFiles", spec := "fnFiles", inPlace := ["slices.overlaps[loop.example/g00464/impl.File]", "internal/bytealg.IndexByteString"], unfollowed := true, recurses := true, apart := false }
def FnFilesSaid : Prop := fnFilesRow.holds Try.pinned (OpenSpec.ofChange fnFilesSpec)

/-- ITS FALSE NEIGHBOUR: 'it returns false'. Refute it at one input. -/
def fnFilesWrong : ChangeSpec := { name := "fnFiles", fn := fun _ => fun
  | [d] => { results := [.lit (.bool false)], args := [d] }
  | _ => none }
def FnFilesWrongFalsely : Prop := fnFilesRow.holds Try.pinned (OpenSpec.ofChange fnFilesWrong)

/-- 'laws.FnFilesBent': WHATEVER THE INPUT: true; the input reads as it did. -/
def fnFilesBentSpec : ChangeSpec := { name := "fnFilesBent", fn := fun _ => fun
  | [d] => { results := [.lit (.bool true)], args := [d] }
  | _ => none }
def fnFilesBentRow : OpenClaim := { program := "ytijmocdkaabijaa", sum := "5352a4611ad38badfd19c7b12cf404cdd28c80fb731c7220376d533ff26d1033", func := "loop.example/g00464/laws.FnFilesBent", spec := "fnFilesBent", inPlace := ["internal/bytealg.IndexByteString"], unfollowed := true, recurses := true, apart := false }
def FnFilesBentSaid : Prop := fnFilesBentRow.holds Try.pinned (OpenSpec.ofChange fnFilesBentSpec)

/-- ITS FALSE NEIGHBOUR: 'it returns false'. Refute it at one input. -/
def fnFilesBentWrong : ChangeSpec := { name := "fnFilesBent", fn := fun _ => fun
  | [d] => { results := [.lit (.bool false)], args := [d] }
  | _ => none }
def FnFilesBentWrongFalsely : Prop := fnFilesBentRow.holds Try.pinned (OpenSpec.ofChange fnFilesBentWrong)

/-- 'laws.FnExactPathOk': WHATEVER THE INPUT: true; the input reads as it did. -/
def fnExactPathOkSpec : ChangeSpec := { name := "fnExactPathOk", fn := fun _ => fun
  | [d] => { results := [.lit (.bool true)], args := [d] }
  | _ => none }
def fnExactPathOkRow : OpenClaim := { program := "ytijmocdkaabijaa", sum := "5352a4611ad38badfd19c7b12cf404cdd28c80fb731c7220376d533ff26d1033", func := "loop.example/g00464/laws.FnExactPathOk", spec := "fnExactPathOk", inPlace := ["internal/bytealg.IndexByteString"], apart := false }
def FnExactPathOkSaid : Prop := fnExactPathOkRow.holds Try.pinned (OpenSpec.ofChange fnExactPathOkSpec)

/-- ITS FALSE NEIGHBOUR: 'it returns false'. Refute it at one input. -/
def fnExactPathOkWrong : ChangeSpec := { name := "fnExactPathOk", fn := fun _ => fun
  | [d] => { results := [.lit (.bool false)], args := [d] }
  | _ => none }
def FnExactPathOkWrongFalsely : Prop := fnExactPathOkRow.holds Try.pinned (OpenSpec.ofChange fnExactPathOkWrong)

/-- 'laws.FnExactFilesOk': WHATEVER THE INPUT: true; the input reads as it did. -/
def fnExactFilesOkSpec : ChangeSpec := { name := "fnExactFilesOk", fn := fun _ => fun
  | [d] => { results := [.lit (.bool true)], args := [d] }
  | _ => none }
def fnExactFilesOkRow : OpenClaim := { program := "ytijmocdkaabijaa", sum := "5352a4611ad38badfd19c7b12cf404cdd28c80fb731c7220376d533ff26d1033", func := "loop.example/g00464/laws.FnExactFilesOk", spec := "fnExactFilesOk", inPlace := ["internal/bytealg.IndexByteString"], apart := false }
def FnExactFilesOkSaid : Prop := fnExactFilesOkRow.holds Try.pinned (OpenSpec.ofChange fnExactFilesOkSpec)

/-- ITS FALSE NEIGHBOUR: 'it returns false'. Refute it at one input. -/
def fnExactFilesOkWrong : ChangeSpec := { name := "fnExactFilesOk", fn := fun _ => fun
  | [d] => { results := [.lit (.bool false)], args := [d] }
  | _ => none }
def FnExactFilesOkWrongFalsely : Prop := fnExactFilesOkRow.holds Try.pinned (OpenSpec.ofChange fnExactFilesOkWrong)

/-- 'laws.FnExactGetFile': WHATEVER THE INPUT: true; the input reads as it did. -/
def fnExactGetFileSpec : ChangeSpec := { name := "fnExactGetFile", fn := fun _ => fun
  | [d1, d2] => { results := [.lit (.bool true)], args := [d1, d2] }
  | _ => none }
def fnExactGetFileRow : OpenClaim := { program := "ytijmocdkaabijaa", sum := "5352a4611ad38badfd19c7b12cf404cdd28c80fb731c7220376d533ff26d1033", func := "loop.example/g00464/laws.FnExactGetFile", spec := "fnExactGetFile", apart := false }
def FnExactGetFileSaid : Prop := fnExactGetFileRow.holds Try.pinned (OpenSpec.ofChange fnExactGetFileSpec)

/-- ITS FALSE NEIGHBOUR: 'it returns false'. Refute it at one input. -/
def fnExactGetFileWrong : ChangeSpec := { name := "fnExactGetFile", fn := fun _ => fun
  | [d1, d2] => { results := [.lit (.bool false)], args := [d1, d2] }
  | _ => none }
def FnExactGetFileWrongFalsely : Prop := fnExactGetFileRow.holds Try.pinned (OpenSpec.ofChange fnExactGetFileWrong)

/- THE SECOND FORM. 'bulk': how many values and letters a reading holds, each counted each time it is reached (what is shared counts as often as it is met; a slice's spare places count too). A statement '..UptoSaid' is the law's where the arguments, and the package variables that the reading takes, are together of bulk at most 1048576: NARROWER than '..Said'. Prove '..Said' where nothing that the law and all that it calls make is longer than what came in: it says more and counts as full. Else prove '..UptoSaid'. A law counts once. -/
mutual
def uptoBulk {H : Type} : DataW H → Nat
  | .lit (.string bytes) => bytes.length + 1
  | .lit _ => 1
  | .nil => 1
  | .ptr d => uptoBulk d + 1
  | .slice elems spare => uptoBulkAll elems + uptoBulkAll spare + 1
  | .agg parts => uptoBulkAll parts + 1
  | .iface _ d => uptoBulk d + 1
  | .map entries => uptoBulkEntries entries + 1
  | .held _ => 1
def uptoBulkAll {H : Type} : List (DataW H) → Nat
  | [] => 0
  | d :: r => uptoBulk d + uptoBulkAll r
def uptoBulkEntries {H : Type} : List (Lit × DataW H) → Nat
  | [] => 0
  | x :: r => uptoBulkEntry x + uptoBulkEntries r
def uptoBulkEntry {H : Type} : Lit × DataW H → Nat
  | (.string bytes, d) => bytes.length + uptoBulk d + 1
  | (_, d) => uptoBulk d + 1
 end
def uptoSmall : (H : Type) → List (DataW H) → Bool := fun _ ds => decide (uptoBulkAll ds ≤ 1048576)
def OpenSpec.upto (s : _root_.Go.ChangeSpec) : _root_.Go.OpenSpec := { _root_.Go.OpenSpec.ofChange s with cond := some uptoSmall }

/-- 'laws.FnFiles', WHERE WHAT IT READS IS OF BULK AT MOST 1048576: true; the input reads as it did. -/
def fnFilesUptoRow : OpenClaim := { program := "ytijmocdkaabijaa", sum := "5352a4611ad38badfd19c7b12cf404cdd28c80fb731c7220376d533ff26d1033", func := "loop.example/g00464/laws.FnFiles", spec := "fnFiles", inPlace := ["slices.overlaps[loop.example/g00464/impl.File]", "internal/bytealg.IndexByteString"], unfollowed := true, recurses := true, apart := false, narrowed := true }
def FnFilesUptoSaid : Prop := fnFilesUptoRow.holds Try.pinned (OpenSpec.upto fnFilesSpec)

/-- 'laws.FnFilesBent', WHERE WHAT IT READS IS OF BULK AT MOST 1048576: true; the input reads as it did. -/
def fnFilesBentUptoRow : OpenClaim := { program := "ytijmocdkaabijaa", sum := "5352a4611ad38badfd19c7b12cf404cdd28c80fb731c7220376d533ff26d1033", func := "loop.example/g00464/laws.FnFilesBent", spec := "fnFilesBent", inPlace := ["internal/bytealg.IndexByteString"], unfollowed := true, recurses := true, apart := false, narrowed := true }
def FnFilesBentUptoSaid : Prop := fnFilesBentUptoRow.holds Try.pinned (OpenSpec.upto fnFilesBentSpec)

/-- 'laws.FnExactPathOk', WHERE WHAT IT READS IS OF BULK AT MOST 1048576: true; the input reads as it did. -/
def fnExactPathOkUptoRow : OpenClaim := { program := "ytijmocdkaabijaa", sum := "5352a4611ad38badfd19c7b12cf404cdd28c80fb731c7220376d533ff26d1033", func := "loop.example/g00464/laws.FnExactPathOk", spec := "fnExactPathOk", inPlace := ["internal/bytealg.IndexByteString"], apart := false, narrowed := true }
def FnExactPathOkUptoSaid : Prop := fnExactPathOkUptoRow.holds Try.pinned (OpenSpec.upto fnExactPathOkSpec)

/-- 'laws.FnExactFilesOk', WHERE WHAT IT READS IS OF BULK AT MOST 1048576: true; the input reads as it did. -/
def fnExactFilesOkUptoRow : OpenClaim := { program := "ytijmocdkaabijaa", sum := "5352a4611ad38badfd19c7b12cf404cdd28c80fb731c7220376d533ff26d1033", func := "loop.example/g00464/laws.FnExactFilesOk", spec := "fnExactFilesOk", inPlace := ["internal/bytealg.IndexByteString"], apart := false, narrowed := true }
def FnExactFilesOkUptoSaid : Prop := fnExactFilesOkUptoRow.holds Try.pinned (OpenSpec.upto fnExactFilesOkSpec)

/-- 'laws.FnExactGetFile', WHERE WHAT IT READS IS OF BULK AT MOST 1048576: true; the input reads as it did. -/
def fnExactGetFileUptoRow : OpenClaim := { program := "ytijmocdkaabijaa", sum := "5352a4611ad38badfd19c7b12cf404cdd28c80fb731c7220376d533ff26d1033", func := "loop.example/g00464/laws.FnExactGetFile", spec := "fnExactGetFile", apart := false, narrowed := true }
def FnExactGetFileUptoSaid : Prop := fnExactGetFileUptoRow.holds Try.pinned (OpenSpec.upto fnExactGetFileSpec)

end Rows
end Go.Proofs.Ytijmocdkaabijaa
