/-
  NARROWER THAN 'FOR EVERY INPUT', by the rows' own cells (each row's printed sentence says how): FnExactSameVal: loops.
  DERIVED. THE GIVEN ROWS OF THIS SEAT. 4 by the template 'for every input the law returns true; each argument reads behind the call as it read before'; 0 by the template 'total and deterministic' (their statements: YtdnpfkknnaepoaaTotals.lean).
  GIVEN WITH THE SEED: the statements are not yours to turn. If you find one false, say at which input.
  Laid BY PROGRAM, IN A SANDBOX (cutbox-rows.mjs): the forced cells as the released guide's own fill.sh prints them over the translation 99cd18b38eea3b39… (all of the seat's roots in one cut). By AI agents, Wed Nov 11 2026. No macro, syntax, notation, axiom, sorry.
-/
import Derived.Test.YtdnpfkknnaepoaaChecked
import GoSem.Claim
import GoSem.ClaimJoined
import GoSem.ClaimMapViews
import Derived.JoinedTies
import Derived.KernelRfl
namespace Go.Proofs.Ytdnpfkknnaepoaa
/- THE CELL 'sum', in the pinned program and in every row, IS THE sha256 OF THE DUMP (.gsa) THAT YtdnpfkknnaepoaaProg.lean LOADS. Nothing in Lean hashes anything: it is a label: what it is worth is what the hold of that sum in a sandbox is worth. -/
noncomputable def Try.pinned : Pinned := { name := "ytdnpfkknnaepoaa", sum := "99cd18b38eea3b39f3a105fa3ab29158661fd27eee995f0e0e05ea4f7e9ca672", checked := Try.checked }
namespace Rows
def none {H : Type} : Left H := { results := [], args := [] }

/-- 'laws.FnVersBent': WHATEVER THE INPUT: true; the input reads as it did. -/
def fnVersBentSpec : ChangeSpec := { name := "fnVersBent", fn := fun _ => fun
  | [d] => { results := [.lit (.bool true)], args := [d] }
  | _ => none }
def fnVersBentRow : OpenClaim := { program := "ytdnpfkknnaepoaa", sum := "99cd18b38eea3b39f3a105fa3ab29158661fd27eee995f0e0e05ea4f7e9ca672", func := "loop.example/g00464/laws.FnVersBent", spec := "fnVersBent", unfollowed := true, recurses := true, plainKeys := false, apart := false }
def FnVersBentSaid : Prop := fnVersBentRow.holds Try.pinned (OpenSpec.ofChange fnVersBentSpec)

/-- ITS FALSE NEIGHBOUR: 'it returns false'. Refute it at one input. -/
def fnVersBentWrong : ChangeSpec := { name := "fnVersBent", fn := fun _ => fun
  | [d] => { results := [.lit (.bool false)], args := [d] }
  | _ => none }
def FnVersBentWrongFalsely : Prop := fnVersBentRow.holds Try.pinned (OpenSpec.ofChange fnVersBentWrong)

/-- 'laws.FnExactSameVal': WHATEVER THE INPUT: true; the input reads as it did. -/
def fnExactSameValSpec : ChangeSpec := { name := "fnExactSameVal", fn := fun _ => fun
  | [d1, d2] => { results := [.lit (.bool true)], args := [d1, d2] }
  | _ => none }
def fnExactSameValRow : OpenClaim := { program := "ytdnpfkknnaepoaa", sum := "99cd18b38eea3b39f3a105fa3ab29158661fd27eee995f0e0e05ea4f7e9ca672", func := "loop.example/g00464/laws.FnExactSameVal", spec := "fnExactSameVal", recurses := true, loops := true, plainKeys := false, apart := false }
def FnExactSameValSaid : Prop := fnExactSameValRow.holds Try.pinned (OpenSpec.ofChange fnExactSameValSpec)

/-- ITS FALSE NEIGHBOUR: 'it returns false'. Refute it at one input. -/
def fnExactSameValWrong : ChangeSpec := { name := "fnExactSameVal", fn := fun _ => fun
  | [d1, d2] => { results := [.lit (.bool false)], args := [d1, d2] }
  | _ => none }
def FnExactSameValWrongFalsely : Prop := fnExactSameValRow.holds Try.pinned (OpenSpec.ofChange fnExactSameValWrong)

/-- 'laws.FnExactCmpOk': WHATEVER THE INPUT: true; the input reads as it did. -/
def fnExactCmpOkSpec : ChangeSpec := { name := "fnExactCmpOk", fn := fun _ => fun
  | [d1, d2] => { results := [.lit (.bool true)], args := [d1, d2] }
  | _ => none }
def fnExactCmpOkRow : OpenClaim := { program := "ytdnpfkknnaepoaa", sum := "99cd18b38eea3b39f3a105fa3ab29158661fd27eee995f0e0e05ea4f7e9ca672", func := "loop.example/g00464/laws.FnExactCmpOk", spec := "fnExactCmpOk", unfollowed := true, recurses := true, plainKeys := false, apart := false }
def FnExactCmpOkSaid : Prop := fnExactCmpOkRow.holds Try.pinned (OpenSpec.ofChange fnExactCmpOkSpec)

/-- ITS FALSE NEIGHBOUR: 'it returns false'. Refute it at one input. -/
def fnExactCmpOkWrong : ChangeSpec := { name := "fnExactCmpOk", fn := fun _ => fun
  | [d1, d2] => { results := [.lit (.bool false)], args := [d1, d2] }
  | _ => none }
def FnExactCmpOkWrongFalsely : Prop := fnExactCmpOkRow.holds Try.pinned (OpenSpec.ofChange fnExactCmpOkWrong)

/-- 'laws.FnExactInRange': WHATEVER THE INPUT: true; the input reads as it did. -/
def fnExactInRangeSpec : ChangeSpec := { name := "fnExactInRange", fn := fun _ => fun
  | [d1, d2] => { results := [.lit (.bool true)], args := [d1, d2] }
  | _ => none }
def fnExactInRangeRow : OpenClaim := { program := "ytdnpfkknnaepoaa", sum := "99cd18b38eea3b39f3a105fa3ab29158661fd27eee995f0e0e05ea4f7e9ca672", func := "loop.example/g00464/laws.FnExactInRange", spec := "fnExactInRange", unfollowed := true, recurses := true, plainKeys := false, apart := false }
def FnExactInRangeSaid : Prop := fnExactInRangeRow.holds Try.pinned (OpenSpec.ofChange fnExactInRangeSpec)

/-- ITS FALSE NEIGHBOUR: 'it returns false'. Refute it at one input. -/
def fnExactInRangeWrong : ChangeSpec := { name := "fnExactInRange", fn := fun _ => fun
  | [d1, d2] => { results := [.lit (.bool false)], args := [d1, d2] }
  | _ => none }
def FnExactInRangeWrongFalsely : Prop := fnExactInRangeRow.holds Try.pinned (OpenSpec.ofChange fnExactInRangeWrong)

/- THE SECOND FORM. 'bulk': how many values and letters a reading holds, each counted each time it is reached (what is shared counts as often as it is met; a slice's spare places count too). A statement '..UptoSaid' is the law's where the arguments, and the package variables that the reading takes, are together of bulk at most 1048576: NARROWER than '..Said'. Prove '..Said' where nothing that the law and all that it calls make is longer than what came in: it says more and counts as full. Else prove '..UptoSaid'. A law counts once. -/
mutual
def uptoBulk {H : Type} : DataW H → Nat
  | .lit (.string bytes) => bytes.length + 1
  | .lit _ => 1
  | .nil => 1
  | .ptr d => uptoBulk d + 1
  | .slice elems spare => uptoBulkAll elems + uptoBulkAll spare + 1
  | .agg parts => uptoBulkAll parts + 1
  | .iface _ d => uptoBulk d + 1
  | .map entries => uptoBulkEntries entries + 1
  | .held _ => 1
def uptoBulkAll {H : Type} : List (DataW H) → Nat
  | [] => 0
  | d :: r => uptoBulk d + uptoBulkAll r
def uptoBulkEntries {H : Type} : List (Lit × DataW H) → Nat
  | [] => 0
  | x :: r => uptoBulkEntry x + uptoBulkEntries r
def uptoBulkEntry {H : Type} : Lit × DataW H → Nat
  | (.string bytes, d) => bytes.length + uptoBulk d + 1
  | (_, d) => uptoBulk d + 1
 end
def uptoSmall : (H : Type) → List (DataW H) → Bool := fun _ ds => decide (uptoBulkAll ds ≤ 1048576)
def OpenSpec.upto (s : _root_.Go.ChangeSpec) : _root_.Go.OpenSpec := { _root_.Go.OpenSpec.ofChange s with cond := some uptoSmall }

/-- 'laws.FnVersBent', WHERE WHAT IT READS IS OF BULK AT MOST 1048576: true; the input reads as it did. -/
def fnVersBentUptoRow : OpenClaim := { program := "ytdnpfkknnaepoaa", sum := "99cd18b38eea3b39f3a105fa3ab29158661fd27eee995f0e0e05ea4f7e9ca672", func := "loop.example/g00464/laws.FnVersBent", spec := "fnVersBent", unfollowed := true, recurses := true, plainKeys := false, apart := false, narrowed := true }
def FnVersBentUptoSaid : Prop := fnVersBentUptoRow.holds Try.pinned (OpenSpec.upto fnVersBentSpec)

/-- 'laws.FnExactSameVal', WHERE WHAT IT READS IS OF BULK AT MOST 1048576: true; the input reads as it did. -/
def fnExactSameValUptoRow : OpenClaim := { program := "ytdnpfkknnaepoaa", sum := "99cd18b38eea3b39f3a105fa3ab29158661fd27eee995f0e0e05ea4f7e9ca672", func := "loop.example/g00464/laws.FnExactSameVal", spec := "fnExactSameVal", recurses := true, loops := true, plainKeys := false, apart := false, narrowed := true }
def FnExactSameValUptoSaid : Prop := fnExactSameValUptoRow.holds Try.pinned (OpenSpec.upto fnExactSameValSpec)

/-- 'laws.FnExactCmpOk', WHERE WHAT IT READS IS OF BULK AT MOST 1048576: true; the input reads as it did. -/
def fnExactCmpOkUptoRow : OpenClaim := { program := "ytdnpfkknnaepoaa", sum := "99cd18b38eea3b39f3a105fa3ab29158661fd27eee995f0e0e05ea4f7e9ca672", func := "loop.example/g00464/laws.FnExactCmpOk", spec := "fnExactCmpOk", unfollowed := true, recurses := true, plainKeys := false, apart := false, narrowed := true }
def FnExactCmpOkUptoSaid : Prop := fnExactCmpOkUptoRow.holds Try.pinned (OpenSpec.upto fnExactCmpOkSpec)

/-- 'laws.FnExactInRange', WHERE WHAT IT READS IS OF BULK AT MOST 1048576: true; the input reads as it did. -/
def fnExactInRangeUptoRow : OpenClaim := { program := "ytdnpfkknnaepoaa", sum := "99cd18b38eea3b39f3a105fa3ab29158661fd27eee995f0e0e05ea4f7e9ca672", func := "loop.example/g00464/laws.FnExactInRange", spec := "fnExactInRange", unfollowed := true, recurses := true, plainKeys := false, apart := false, narrowed := true }
def FnExactInRangeUptoSaid : Prop := fnExactInRangeUptoRow.holds Try.pinned (OpenSpec.upto fnExactInRangeSpec)

end Rows
end Go.Proofs.Ytdnpfkknnaepoaa
