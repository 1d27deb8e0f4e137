/-
  No cell of these rows narrows 'for every input' (looked for: loops, veiled, ifaces, maps, wideKeys, modest, calm, conditions, laid).
  DERIVED. THE GIVEN ROWS OF THIS SEAT. 5 by the template 'for every input the law returns true; each argument reads behind the call as it read before'; 0 by the template 'total and deterministic' (their statements: YtiadcebolcdhbaaTotals.lean).
  GIVEN WITH THE SEED: the statements are not yours to turn. If you find one false, say at which input.
  Laid BY PROGRAM, IN A SANDBOX (cutbox-rows.mjs): the forced cells as the released guide's own fill.sh prints them over the translation 08f788b83d80a671… (all of the seat's roots in one cut). By AI agents, Wed Nov 11 2026. No macro, syntax, notation, axiom, sorry.
-/
import Derived.Test.YtiadcebolcdhbaaChecked
import GoSem.Claim
import GoSem.ClaimJoined
import GoSem.ClaimMapViews
import Derived.JoinedTies
import Derived.KernelRfl
namespace Go.Proofs.Ytiadcebolcdhbaa
/- THE CELL 'sum', in the pinned program and in every row, IS THE sha256 OF THE DUMP (.gsa) THAT YtiadcebolcdhbaaProg.lean LOADS. Nothing in Lean hashes anything: it is a label: what it is worth is what the hold of that sum in a sandbox is worth. -/
noncomputable def Try.pinned : Pinned := { name := "ytiadcebolcdhbaa", sum := "08f788b83d80a6713eb4a43f632a80afac9fde755de9e61faed6e4ae9dbb39da", checked := Try.checked }
namespace Rows
def none {H : Type} : Left H := { results := [], args := [] }

/-- 'laws.FnLeans': WHATEVER THE INPUT: true; the input reads as it did. -/
def fnLeansSpec : ChangeSpec := { name := "fnLeans", fn := fun _ => fun
  | [d] => { results := [.lit (.bool true)], args := [d] }
  | _ => none }
def fnLeansRow : OpenClaim := { program := "ytiadcebolcdhbaa", sum := "08f788b83d80a6713eb4a43f632a80afac9fde755de9e61faed6e4ae9dbb39da", func := "loop.example/g00464/laws.FnLeans", spec := "fnLeans", unfollowed := true, recurses := true, apart := false }
def FnLeansSaid : Prop := fnLeansRow.holds Try.pinned (OpenSpec.ofChange fnLeansSpec)

/-- ITS FALSE NEIGHBOUR: 'it returns false'. Refute it at one input. -/
def fnLeansWrong : ChangeSpec := { name := "fnLeans", fn := fun _ => fun
  | [d] => { results := [.lit (.bool false)], args := [d] }
  | _ => none }
def FnLeansWrongFalsely : Prop := fnLeansRow.holds Try.pinned (OpenSpec.ofChange fnLeansWrong)

/-- 'laws.FnExactOnOk': WHATEVER THE INPUT: true; the input reads as it did. -/
def fnExactOnOkSpec : ChangeSpec := { name := "fnExactOnOk", fn := fun _ => fun
  | [d] => { results := [.lit (.bool true)], args := [d] }
  | _ => none }
def fnExactOnOkRow : OpenClaim := { program := "ytiadcebolcdhbaa", sum := "08f788b83d80a6713eb4a43f632a80afac9fde755de9e61faed6e4ae9dbb39da", func := "loop.example/g00464/laws.FnExactOnOk", spec := "fnExactOnOk", inPlace := ["internal/bytealg.IndexByteString", "internal/bytealg.IndexString"], named := ["internal/bytealg.MaxLen"], apart := false }
def FnExactOnOkSaid : Prop := fnExactOnOkRow.holds Try.pinned (OpenSpec.ofChange fnExactOnOkSpec)

/-- ITS FALSE NEIGHBOUR: 'it returns false'. Refute it at one input. -/
def fnExactOnOkWrong : ChangeSpec := { name := "fnExactOnOk", fn := fun _ => fun
  | [d] => { results := [.lit (.bool false)], args := [d] }
  | _ => none }
def FnExactOnOkWrongFalsely : Prop := fnExactOnOkRow.holds Try.pinned (OpenSpec.ofChange fnExactOnOkWrong)

/-- 'laws.FnExactRulesOk': WHATEVER THE INPUT: true; the input reads as it did. -/
def fnExactRulesOkSpec : ChangeSpec := { name := "fnExactRulesOk", fn := fun _ => fun
  | [d] => { results := [.lit (.bool true)], args := [d] }
  | _ => none }
def fnExactRulesOkRow : OpenClaim := { program := "ytiadcebolcdhbaa", sum := "08f788b83d80a6713eb4a43f632a80afac9fde755de9e61faed6e4ae9dbb39da", func := "loop.example/g00464/laws.FnExactRulesOk", spec := "fnExactRulesOk", inPlace := ["internal/bytealg.IndexByteString", "internal/bytealg.IndexString"], unfollowed := true, recurses := true, named := ["internal/bytealg.MaxLen"], apart := false }
def FnExactRulesOkSaid : Prop := fnExactRulesOkRow.holds Try.pinned (OpenSpec.ofChange fnExactRulesOkSpec)

/-- ITS FALSE NEIGHBOUR: 'it returns false'. Refute it at one input. -/
def fnExactRulesOkWrong : ChangeSpec := { name := "fnExactRulesOk", fn := fun _ => fun
  | [d] => { results := [.lit (.bool false)], args := [d] }
  | _ => none }
def FnExactRulesOkWrongFalsely : Prop := fnExactRulesOkRow.holds Try.pinned (OpenSpec.ofChange fnExactRulesOkWrong)

/-- 'laws.FnExactRuleVal': WHATEVER THE INPUT: true; the input reads as it did. -/
def fnExactRuleValSpec : ChangeSpec := { name := "fnExactRuleVal", fn := fun _ => fun
  | [d] => { results := [.lit (.bool true)], args := [d] }
  | _ => none }
def fnExactRuleValRow : OpenClaim := { program := "ytiadcebolcdhbaa", sum := "08f788b83d80a6713eb4a43f632a80afac9fde755de9e61faed6e4ae9dbb39da", func := "loop.example/g00464/laws.FnExactRuleVal", spec := "fnExactRuleVal", unfollowed := true, recurses := true, apart := false }
def FnExactRuleValSaid : Prop := fnExactRuleValRow.holds Try.pinned (OpenSpec.ofChange fnExactRuleValSpec)

/-- ITS FALSE NEIGHBOUR: 'it returns false'. Refute it at one input. -/
def fnExactRuleValWrong : ChangeSpec := { name := "fnExactRuleVal", fn := fun _ => fun
  | [d] => { results := [.lit (.bool false)], args := [d] }
  | _ => none }
def FnExactRuleValWrongFalsely : Prop := fnExactRuleValRow.holds Try.pinned (OpenSpec.ofChange fnExactRuleValWrong)

/-- 'laws.FnExactRuleAt': WHATEVER THE INPUT: true; the input reads as it did. -/
def fnExactRuleAtSpec : ChangeSpec := { name := "fnExactRuleAt", fn := fun _ => fun
  | [d1, d2] => { results := [.lit (.bool true)], args := [d1, d2] }
  | _ => none }
def fnExactRuleAtRow : OpenClaim := { program := "ytiadcebolcdhbaa", sum := "08f788b83d80a6713eb4a43f632a80afac9fde755de9e61faed6e4ae9dbb39da", func := "loop.example/g00464/laws.FnExactRuleAt", spec := "fnExactRuleAt", unfollowed := true, recurses := true, apart := false }
def FnExactRuleAtSaid : Prop := fnExactRuleAtRow.holds Try.pinned (OpenSpec.ofChange fnExactRuleAtSpec)

/-- ITS FALSE NEIGHBOUR: 'it returns false'. Refute it at one input. -/
def fnExactRuleAtWrong : ChangeSpec := { name := "fnExactRuleAt", fn := fun _ => fun
  | [d1, d2] => { results := [.lit (.bool false)], args := [d1, d2] }
  | _ => none }
def FnExactRuleAtWrongFalsely : Prop := fnExactRuleAtRow.holds Try.pinned (OpenSpec.ofChange fnExactRuleAtWrong)

/- THE SECOND FORM. 'bulk': how many values and letters a reading holds, each counted each time it is reached (what is shared counts as often as it is met; a slice's spare places count too). A statement '..UptoSaid' is the law's where the arguments, and the package variables that the reading takes, are together of bulk at most 1048576: NARROWER than '..Said'. Prove '..Said' where nothing that the law and all that it calls make is longer than what came in: it says more and counts as full. Else prove '..UptoSaid'. A law counts once. -/
mutual
def uptoBulk {H : Type} : DataW H → Nat
  | .lit (.string bytes) => bytes.length + 1
  | .lit _ => 1
  | .nil => 1
  | .ptr d => uptoBulk d + 1
  | .slice elems spare => uptoBulkAll elems + uptoBulkAll spare + 1
  | .agg parts => uptoBulkAll parts + 1
  | .iface _ d => uptoBulk d + 1
  | .map entries => uptoBulkEntries entries + 1
  | .held _ => 1
def uptoBulkAll {H : Type} : List (DataW H) → Nat
  | [] => 0
  | d :: r => uptoBulk d + uptoBulkAll r
def uptoBulkEntries {H : Type} : List (Lit × DataW H) → Nat
  | [] => 0
  | x :: r => uptoBulkEntry x + uptoBulkEntries r
def uptoBulkEntry {H : Type} : Lit × DataW H → Nat
  | (.string bytes, d) => bytes.length + uptoBulk d + 1
  | (_, d) => uptoBulk d + 1
 end
def uptoSmall : (H : Type) → List (DataW H) → Bool := fun _ ds => decide (uptoBulkAll ds ≤ 1048576)
def OpenSpec.upto (s : _root_.Go.ChangeSpec) : _root_.Go.OpenSpec := { _root_.Go.OpenSpec.ofChange s with cond := some uptoSmall }

/-- 'laws.FnLeans', WHERE WHAT IT READS IS OF BULK AT MOST 1048576: true; the input reads as it did. -/
def fnLeansUptoRow : OpenClaim := { program := "ytiadcebolcdhbaa", sum := "08f788b83d80a6713eb4a43f632a80afac9fde755de9e61faed6e4ae9dbb39da", func := "loop.example/g00464/laws.FnLeans", spec := "fnLeans", unfollowed := true, recurses := true, apart := false, narrowed := true }
def FnLeansUptoSaid : Prop := fnLeansUptoRow.holds Try.pinned (OpenSpec.upto fnLeansSpec)

/-- 'laws.FnExactOnOk', WHERE WHAT IT READS IS OF BULK AT MOST 1048576: true; the input reads as it did. -/
def fnExactOnOkUptoRow : OpenClaim := { program := "ytiadcebolcdhbaa", sum := "08f788b83d80a6713eb4a43f632a80afac9fde755de9e61faed6e4ae9dbb39da", func := "loop.example/g00464/laws.FnExactOnOk", spec := "fnExactOnOk", inPlace := ["internal/bytealg.IndexByteString", "internal/bytealg.IndexString"], named := ["internal/bytealg.MaxLen"], apart := false, narrowed := true }
def FnExactOnOkUptoSaid : Prop := fnExactOnOkUptoRow.holds Try.pinned (OpenSpec.upto fnExactOnOkSpec)

/-- 'laws.FnExactRulesOk', WHERE WHAT IT READS IS OF BULK AT MOST 1048576: true; the input reads as it did. -/
def fnExactRulesOkUptoRow : OpenClaim := { program := "ytiadcebolcdhbaa", sum := "08f788b83d80a6713eb4a43f632a80afac9fde755de9e61faed6e4ae9dbb39da", func := "loop.example/g00464/laws.FnExactRulesOk", spec := "fnExactRulesOk", inPlace := ["internal/bytealg.IndexByteString", "internal/bytealg.IndexString"], unfollowed := true, recurses := true, named := ["internal/bytealg.MaxLen"], apart := false, narrowed := true }
def FnExactRulesOkUptoSaid : Prop := fnExactRulesOkUptoRow.holds Try.pinned (OpenSpec.upto fnExactRulesOkSpec)

/-- 'laws.FnExactRuleVal', WHERE WHAT IT READS IS OF BULK AT MOST 1048576: true; the input reads as it did. -/
def fnExactRuleValUptoRow : OpenClaim := { program := "ytiadcebolcdhbaa", sum := "08f788b83d80a6713eb4a43f632a80afac9fde755de9e61faed6e4ae9dbb39da", func := "loop.example/g00464/laws.FnExactRuleVal", spec := "fnExactRuleVal", unfollowed := true, recurses := true, apart := false, narrowed := true }
def FnExactRuleValUptoSaid : Prop := fnExactRuleValUptoRow.holds Try.pinned (OpenSpec.upto fnExactRuleValSpec)

/-- 'laws.FnExactRuleAt', WHERE WHAT IT READS IS OF BULK AT MOST 1048576: true; the input reads as it did. -/
def fnExactRuleAtUptoRow : OpenClaim := { program := "ytiadcebolcdhbaa", sum := "08f788b83d80a6713eb4a43f632a80afac9fde755de9e61faed6e4ae9dbb39da", func := "loop.example/g00464/laws.FnExactRuleAt", spec := "fnExactRuleAt", unfollowed := true, recurses := true, apart := false, narrowed := true }
def FnExactRuleAtUptoSaid : Prop := fnExactRuleAtUptoRow.holds Try.pinned (OpenSpec.upto fnExactRuleAtSpec)

end Rows
end Go.Proofs.Ytiadcebolcdhbaa
