/-
  No cell of these rows narrows 'for every input' (looked for: loops, veiled, ifaces, maps, wideKeys, modest, calm, conditions, laid).
  DERIVED. THE GIVEN ROWS OF THIS SEAT. 5 by the template 'for every input the law returns true; each argument reads behind the call as it read before'; 0 by the template 'total and deterministic' (their statements: YtkkhnldhipfneaaTotals.lean).
  GIVEN WITH THE SEED: the statements are not yours to turn. If you find one false, say at which input.
  Laid BY PROGRAM, IN A SANDBOX (cutbox-rows.mjs): the forced cells as the released guide's own fill.sh prints them over the translation 112ac3667f9ba626… (all of the seat's roots in one cut). By AI agents, Wed Nov 11 2026. No macro, syntax, notation, axiom, sorry.
-/
import Derived.Test.YtkkhnldhipfneaaChecked
import GoSem.Claim
import GoSem.ClaimJoined
import GoSem.ClaimMapViews
import Derived.JoinedTies
import Derived.KernelRfl
namespace Go.Proofs.Ytkkhnldhipfneaa
/- THE CELL 'sum', in the pinned program and in every row, IS THE sha256 OF THE DUMP (.gsa) THAT YtkkhnldhipfneaaProg.lean LOADS. Nothing in Lean hashes anything: it is a label: what it is worth is what the hold of that sum in a sandbox is worth. -/
noncomputable def Try.pinned : Pinned := { name := "ytkkhnldhipfneaa", sum := "112ac3667f9ba62635e3eb69e5a342b3faa6b3321f906f119e0de6ccdfdf14c8", checked := Try.checked }
namespace Rows
def none {H : Type} : Left H := { results := [], args := [] }

/-- 'laws.FnLeans': WHATEVER THE INPUT: true; the input reads as it did. -/
def fnLeansSpec : ChangeSpec := { name := "fnLeans", fn := fun _ => fun
  | [d] => { results := [.lit (.bool true)], args := [d] }
  | _ => none }
def fnLeansRow : OpenClaim := { program := "ytkkhnldhipfneaa", sum := "112ac3667f9ba62635e3eb69e5a342b3faa6b3321f906f119e0de6ccdfdf14c8", func := "loop.example/g00464/laws.FnLeans", spec := "fnLeans", unfollowed := true, recurses := true, apart := false }
def FnLeansSaid : Prop := fnLeansRow.holds Try.pinned (OpenSpec.ofChange fnLeansSpec)

/-- ITS FALSE NEIGHBOUR: 'it returns false'. Refute it at one input. -/
def fnLeansWrong : ChangeSpec := { name := "fnLeans", fn := fun _ => fun
  | [d] => { results := [.lit (.bool false)], args := [d] }
  | _ => none }
def FnLeansWrongFalsely : Prop := fnLeansRow.holds Try.pinned (OpenSpec.ofChange fnLeansWrong)

/-- 'laws.FnExactTaskName': WHATEVER THE INPUT: true; the input reads as it did. -/
def fnExactTaskNameSpec : ChangeSpec := { name := "fnExactTaskName", fn := fun _ => fun
  | [d1, d2] => { results := [.lit (.bool true)], args := [d1, d2] }
  | _ => none }
def fnExactTaskNameRow : OpenClaim := { program := "ytkkhnldhipfneaa", sum := "112ac3667f9ba62635e3eb69e5a342b3faa6b3321f906f119e0de6ccdfdf14c8", func := "loop.example/g00464/laws.FnExactTaskName", spec := "fnExactTaskName", apart := false }
def FnExactTaskNameSaid : Prop := fnExactTaskNameRow.holds Try.pinned (OpenSpec.ofChange fnExactTaskNameSpec)

/-- ITS FALSE NEIGHBOUR: 'it returns false'. Refute it at one input. -/
def fnExactTaskNameWrong : ChangeSpec := { name := "fnExactTaskName", fn := fun _ => fun
  | [d1, d2] => { results := [.lit (.bool false)], args := [d1, d2] }
  | _ => none }
def FnExactTaskNameWrongFalsely : Prop := fnExactTaskNameRow.holds Try.pinned (OpenSpec.ofChange fnExactTaskNameWrong)

/-- 'laws.FnExactParseTask': WHATEVER THE INPUT: true; the input reads as it did. -/
def fnExactParseTaskSpec : ChangeSpec := { name := "fnExactParseTask", fn := fun _ => fun
  | [d] => { results := [.lit (.bool true)], args := [d] }
  | _ => none }
def fnExactParseTaskRow : OpenClaim := { program := "ytkkhnldhipfneaa", sum := "112ac3667f9ba62635e3eb69e5a342b3faa6b3321f906f119e0de6ccdfdf14c8", func := "loop.example/g00464/laws.FnExactParseTask", spec := "fnExactParseTask", inPlace := ["internal/bytealg.IndexByteString", "internal/bytealg.IndexString"], named := ["internal/bytealg.MaxLen"], apart := false }
def FnExactParseTaskSaid : Prop := fnExactParseTaskRow.holds Try.pinned (OpenSpec.ofChange fnExactParseTaskSpec)

/-- ITS FALSE NEIGHBOUR: 'it returns false'. Refute it at one input. -/
def fnExactParseTaskWrong : ChangeSpec := { name := "fnExactParseTask", fn := fun _ => fun
  | [d] => { results := [.lit (.bool false)], args := [d] }
  | _ => none }
def FnExactParseTaskWrongFalsely : Prop := fnExactParseTaskRow.holds Try.pinned (OpenSpec.ofChange fnExactParseTaskWrong)

/-- 'laws.FnExactPlanOk': WHATEVER THE INPUT: true; the input reads as it did. -/
def fnExactPlanOkSpec : ChangeSpec := { name := "fnExactPlanOk", fn := fun _ => fun
  | [d] => { results := [.lit (.bool true)], args := [d] }
  | _ => none }
def fnExactPlanOkRow : OpenClaim := { program := "ytkkhnldhipfneaa", sum := "112ac3667f9ba62635e3eb69e5a342b3faa6b3321f906f119e0de6ccdfdf14c8", func := "loop.example/g00464/laws.FnExactPlanOk", spec := "fnExactPlanOk", inPlace := ["internal/bytealg.IndexByteString", "internal/bytealg.IndexString"], unfollowed := true, recurses := true, named := ["internal/bytealg.MaxLen"], apart := false }
def FnExactPlanOkSaid : Prop := fnExactPlanOkRow.holds Try.pinned (OpenSpec.ofChange fnExactPlanOkSpec)

/-- ITS FALSE NEIGHBOUR: 'it returns false'. Refute it at one input. -/
def fnExactPlanOkWrong : ChangeSpec := { name := "fnExactPlanOk", fn := fun _ => fun
  | [d] => { results := [.lit (.bool false)], args := [d] }
  | _ => none }
def FnExactPlanOkWrongFalsely : Prop := fnExactPlanOkRow.holds Try.pinned (OpenSpec.ofChange fnExactPlanOkWrong)

/-- 'laws.FnExactDepsOf': WHATEVER THE INPUT: true; the input reads as it did. -/
def fnExactDepsOfSpec : ChangeSpec := { name := "fnExactDepsOf", fn := fun _ => fun
  | [d1, d2] => { results := [.lit (.bool true)], args := [d1, d2] }
  | _ => none }
def fnExactDepsOfRow : OpenClaim := { program := "ytkkhnldhipfneaa", sum := "112ac3667f9ba62635e3eb69e5a342b3faa6b3321f906f119e0de6ccdfdf14c8", func := "loop.example/g00464/laws.FnExactDepsOf", spec := "fnExactDepsOf", apart := false }
def FnExactDepsOfSaid : Prop := fnExactDepsOfRow.holds Try.pinned (OpenSpec.ofChange fnExactDepsOfSpec)

/-- ITS FALSE NEIGHBOUR: 'it returns false'. Refute it at one input. -/
def fnExactDepsOfWrong : ChangeSpec := { name := "fnExactDepsOf", fn := fun _ => fun
  | [d1, d2] => { results := [.lit (.bool false)], args := [d1, d2] }
  | _ => none }
def FnExactDepsOfWrongFalsely : Prop := fnExactDepsOfRow.holds Try.pinned (OpenSpec.ofChange fnExactDepsOfWrong)

/- THE SECOND FORM. 'bulk': how many values and letters a reading holds, each counted each time it is reached (what is shared counts as often as it is met; a slice's spare places count too). A statement '..UptoSaid' is the law's where the arguments, and the package variables that the reading takes, are together of bulk at most 1048576: NARROWER than '..Said'. Prove '..Said' where nothing that the law and all that it calls make is longer than what came in: it says more and counts as full. Else prove '..UptoSaid'. A law counts once. -/
mutual
def uptoBulk {H : Type} : DataW H → Nat
  | .lit (.string bytes) => bytes.length + 1
  | .lit _ => 1
  | .nil => 1
  | .ptr d => uptoBulk d + 1
  | .slice elems spare => uptoBulkAll elems + uptoBulkAll spare + 1
  | .agg parts => uptoBulkAll parts + 1
  | .iface _ d => uptoBulk d + 1
  | .map entries => uptoBulkEntries entries + 1
  | .held _ => 1
def uptoBulkAll {H : Type} : List (DataW H) → Nat
  | [] => 0
  | d :: r => uptoBulk d + uptoBulkAll r
def uptoBulkEntries {H : Type} : List (Lit × DataW H) → Nat
  | [] => 0
  | x :: r => uptoBulkEntry x + uptoBulkEntries r
def uptoBulkEntry {H : Type} : Lit × DataW H → Nat
  | (.string bytes, d) => bytes.length + uptoBulk d + 1
  | (_, d) => uptoBulk d + 1
 end
def uptoSmall : (H : Type) → List (DataW H) → Bool := fun _ ds => decide (uptoBulkAll ds ≤ 1048576)
def OpenSpec.upto (s : _root_.Go.ChangeSpec) : _root_.Go.OpenSpec := { _root_.Go.OpenSpec.ofChange s with cond := some uptoSmall }

/-- 'laws.FnLeans', WHERE WHAT IT READS IS OF BULK AT MOST 1048576: true; the input reads as it did. -/
def fnLeansUptoRow : OpenClaim := { program := "ytkkhnldhipfneaa", sum := "112ac3667f9ba62635e3eb69e5a342b3faa6b3321f906f119e0de6ccdfdf14c8", func := "loop.example/g00464/laws.FnLeans", spec := "fnLeans", unfollowed := true, recurses := true, apart := false, narrowed := true }
def FnLeansUptoSaid : Prop := fnLeansUptoRow.holds Try.pinned (OpenSpec.upto fnLeansSpec)

/-- 'laws.FnExactTaskName', WHERE WHAT IT READS IS OF BULK AT MOST 1048576: true; the input reads as it did. -/
def fnExactTaskNameUptoRow : OpenClaim := { program := "ytkkhnldhipfneaa", sum := "112ac3667f9ba62635e3eb69e5a342b3faa6b3321f906f119e0de6ccdfdf14c8", func := "loop.example/g00464/laws.FnExactTaskName", spec := "fnExactTaskName", apart := false, narrowed := true }
def FnExactTaskNameUptoSaid : Prop := fnExactTaskNameUptoRow.holds Try.pinned (OpenSpec.upto fnExactTaskNameSpec)

/-- 'laws.FnExactParseTask', WHERE WHAT IT READS IS OF BULK AT MOST 1048576: true; the input reads as it did. -/
def fnExactParseTaskUptoRow : OpenClaim := { program := "ytkkhnldhipfneaa", sum := "112ac3667f9ba62635e3eb69e5a342b3faa6b3321f906f119e0de6ccdfdf14c8", func := "loop.example/g00464/laws.FnExactParseTask", spec := "fnExactParseTask", inPlace := ["internal/bytealg.IndexByteString", "internal/bytealg.IndexString"], named := ["internal/bytealg.MaxLen"], apart := false, narrowed := true }
def FnExactParseTaskUptoSaid : Prop := fnExactParseTaskUptoRow.holds Try.pinned (OpenSpec.upto fnExactParseTaskSpec)

/-- 'laws.FnExactPlanOk', WHERE WHAT IT READS IS OF BULK AT MOST 1048576: true; the input reads as it did. -/
def fnExactPlanOkUptoRow : OpenClaim := { program := "ytkkhnldhipfneaa", sum := "112ac3667f9ba62635e3eb69e5a342b3faa6b3321f906f119e0de6ccdfdf14c8", func := "loop.example/g00464/laws.FnExactPlanOk", spec := "fnExactPlanOk", inPlace := ["internal/bytealg.IndexByteString", "internal/bytealg.IndexString"], unfollowed := true, recurses := true, named := ["internal/bytealg.MaxLen"], apart := false, narrowed := true }
def FnExactPlanOkUptoSaid : Prop := fnExactPlanOkUptoRow.holds Try.pinned (OpenSpec.upto fnExactPlanOkSpec)

/-- 'laws.FnExactDepsOf', WHERE WHAT IT READS IS OF BULK AT MOST 1048576: true; the input reads as it did. -/
def fnExactDepsOfUptoRow : OpenClaim := { program := "ytkkhnldhipfneaa", sum := "112ac3667f9ba62635e3eb69e5a342b3faa6b3321f906f119e0de6ccdfdf14c8", func := "loop.example/g00464/laws.FnExactDepsOf", spec := "fnExactDepsOf", apart := false, narrowed := true }
def FnExactDepsOfUptoSaid : Prop := fnExactDepsOfUptoRow.holds Try.pinned (OpenSpec.upto fnExactDepsOfSpec)

end Rows
end Go.Proofs.Ytkkhnldhipfneaa
