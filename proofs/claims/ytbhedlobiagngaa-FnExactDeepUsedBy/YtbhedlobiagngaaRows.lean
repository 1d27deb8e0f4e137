/-
  No cell of these rows narrows 'for every input' (looked for: loops, veiled, ifaces, maps, wideKeys, modest, calm, conditions, laid).
  DERIVED. THE GIVEN ROWS OF THIS SEAT. 4 by the template 'for every input the law returns true; each argument reads behind the call as it read before'; 0 by the template 'total and deterministic' (their statements: YtbhedlobiagngaaTotals.lean).
  GIVEN WITH THE SEED: the statements are not yours to turn. If you find one false, say at which input.
  Laid BY PROGRAM, IN A SANDBOX (cutbox-rows.mjs): the forced cells as the released guide's own fill.sh prints them over the translation 73ce9ea8d3851bdf… (all of the seat's roots in one cut). By AI agents, Wed Nov 11 2026. No macro, syntax, notation, axiom, sorry.
-/
import Derived.Test.YtbhedlobiagngaaChecked
import GoSem.Claim
import GoSem.ClaimJoined
import GoSem.ClaimMapViews
import Derived.JoinedTies
import Derived.KernelRfl
namespace Go.Proofs.Ytbhedlobiagngaa
/- THE CELL 'sum', in the pinned program and in every row, IS THE sha256 OF THE DUMP (.gsa) THAT YtbhedlobiagngaaProg.lean LOADS. Nothing in Lean hashes anything: it is a label: what it is worth is what the hold of that sum in a sandbox is worth. -/
noncomputable def Try.pinned : Pinned := { name := "ytbhedlobiagngaa", sum := "73ce9ea8d3851bdf86122c276c750343f262c130d878bab936462c34797a92a7", checked := Try.checked }
namespace Rows
def none {H : Type} : Left H := { results := [], args := [] }

/-- 'laws.FnLeans': WHATEVER THE INPUT: true; the input reads as it did. -/
def fnLeansSpec : ChangeSpec := { name := "fnLeans", fn := fun _ => fun
  | [d] => { results := [.lit (.bool true)], args := [d] }
  | _ => none }
def fnLeansRow : OpenClaim := { program := "ytbhedlobiagngaa", sum := "73ce9ea8d3851bdf86122c276c750343f262c130d878bab936462c34797a92a7", func := "loop.example/g00464/laws.FnLeans", spec := "fnLeans", unfollowed := true, recurses := true, apart := false }
def FnLeansSaid : Prop := fnLeansRow.holds Try.pinned (OpenSpec.ofChange fnLeansSpec)

/-- ITS FALSE NEIGHBOUR: 'it returns false'. Refute it at one input. -/
def fnLeansWrong : ChangeSpec := { name := "fnLeans", fn := fun _ => fun
  | [d] => { results := [.lit (.bool false)], args := [d] }
  | _ => none }
def FnLeansWrongFalsely : Prop := fnLeansRow.holds Try.pinned (OpenSpec.ofChange fnLeansWrong)

/-- 'laws.FnExactUsedBy': WHATEVER THE INPUT: true; the input reads as it did. -/
def fnExactUsedBySpec : ChangeSpec := { name := "fnExactUsedBy", fn := fun _ => fun
  | [d1, d2] => { results := [.lit (.bool true)], args := [d1, d2] }
  | _ => none }
def fnExactUsedByRow : OpenClaim := { program := "ytbhedlobiagngaa", sum := "73ce9ea8d3851bdf86122c276c750343f262c130d878bab936462c34797a92a7", func := "loop.example/g00464/laws.FnExactUsedBy", spec := "fnExactUsedBy", recurses := true, apart := false }
def FnExactUsedBySaid : Prop := fnExactUsedByRow.holds Try.pinned (OpenSpec.ofChange fnExactUsedBySpec)

/-- ITS FALSE NEIGHBOUR: 'it returns false'. Refute it at one input. -/
def fnExactUsedByWrong : ChangeSpec := { name := "fnExactUsedBy", fn := fun _ => fun
  | [d1, d2] => { results := [.lit (.bool false)], args := [d1, d2] }
  | _ => none }
def FnExactUsedByWrongFalsely : Prop := fnExactUsedByRow.holds Try.pinned (OpenSpec.ofChange fnExactUsedByWrong)

/-- 'laws.FnExactDeepUsedBy': WHATEVER THE INPUT: true; the input reads as it did. -/
def fnExactDeepUsedBySpec : ChangeSpec := { name := "fnExactDeepUsedBy", fn := fun _ => fun
  | [d1, d2] => { results := [.lit (.bool true)], args := [d1, d2] }
  | _ => none }
def fnExactDeepUsedByRow : OpenClaim := { program := "ytbhedlobiagngaa", sum := "73ce9ea8d3851bdf86122c276c750343f262c130d878bab936462c34797a92a7", func := "loop.example/g00464/laws.FnExactDeepUsedBy", spec := "fnExactDeepUsedBy", unfollowed := true, recurses := true, apart := false }
def FnExactDeepUsedBySaid : Prop := fnExactDeepUsedByRow.holds Try.pinned (OpenSpec.ofChange fnExactDeepUsedBySpec)

/-- ITS FALSE NEIGHBOUR: 'it returns false'. Refute it at one input. -/
def fnExactDeepUsedByWrong : ChangeSpec := { name := "fnExactDeepUsedBy", fn := fun _ => fun
  | [d1, d2] => { results := [.lit (.bool false)], args := [d1, d2] }
  | _ => none }
def FnExactDeepUsedByWrongFalsely : Prop := fnExactDeepUsedByRow.holds Try.pinned (OpenSpec.ofChange fnExactDeepUsedByWrong)

/-- 'laws.FnExactOrder': WHATEVER THE INPUT: true; the input reads as it did. -/
def fnExactOrderSpec : ChangeSpec := { name := "fnExactOrder", fn := fun _ => fun
  | [d] => { results := [.lit (.bool true)], args := [d] }
  | _ => none }
def fnExactOrderRow : OpenClaim := { program := "ytbhedlobiagngaa", sum := "73ce9ea8d3851bdf86122c276c750343f262c130d878bab936462c34797a92a7", func := "loop.example/g00464/laws.FnExactOrder", spec := "fnExactOrder", apart := false }
def FnExactOrderSaid : Prop := fnExactOrderRow.holds Try.pinned (OpenSpec.ofChange fnExactOrderSpec)

/-- ITS FALSE NEIGHBOUR: 'it returns false'. Refute it at one input. -/
def fnExactOrderWrong : ChangeSpec := { name := "fnExactOrder", fn := fun _ => fun
  | [d] => { results := [.lit (.bool false)], args := [d] }
  | _ => none }
def FnExactOrderWrongFalsely : Prop := fnExactOrderRow.holds Try.pinned (OpenSpec.ofChange fnExactOrderWrong)

/- THE SECOND FORM. 'bulk': how many values and letters a reading holds, each counted each time it is reached (what is shared counts as often as it is met; a slice's spare places count too). A statement '..UptoSaid' is the law's where the arguments, and the package variables that the reading takes, are together of bulk at most 1048576: NARROWER than '..Said'. Prove '..Said' where nothing that the law and all that it calls make is longer than what came in: it says more and counts as full. Else prove '..UptoSaid'. A law counts once. -/
mutual
def uptoBulk {H : Type} : DataW H → Nat
  | .lit (.string bytes) => bytes.length + 1
  | .lit _ => 1
  | .nil => 1
  | .ptr d => uptoBulk d + 1
  | .slice elems spare => uptoBulkAll elems + uptoBulkAll spare + 1
  | .agg parts => uptoBulkAll parts + 1
  | .iface _ d => uptoBulk d + 1
  | .map entries => uptoBulkEntries entries + 1
  | .held _ => 1
def uptoBulkAll {H : Type} : List (DataW H) → Nat
  | [] => 0
  | d :: r => uptoBulk d + uptoBulkAll r
def uptoBulkEntries {H : Type} : List (Lit × DataW H) → Nat
  | [] => 0
  | x :: r => uptoBulkEntry x + uptoBulkEntries r
def uptoBulkEntry {H : Type} : Lit × DataW H → Nat
  | (.string bytes, d) => bytes.length + uptoBulk d + 1
  | (_, d) => uptoBulk d + 1
 end
def uptoSmall : (H : Type) → List (DataW H) → Bool := fun _ ds => decide (uptoBulkAll ds ≤ 1048576)
def OpenSpec.upto (s : _root_.Go.ChangeSpec) : _root_.Go.OpenSpec := { _root_.Go.OpenSpec.ofChange s with cond := some uptoSmall }

/-- 'laws.FnLeans', WHERE WHAT IT READS IS OF BULK AT MOST 1048576: true; the input reads as it did. -/
def fnLeansUptoRow : OpenClaim := { program := "ytbhedlobiagngaa", sum := "73ce9ea8d3851bdf86122c276c750343f262c130d878bab936462c34797a92a7", func := "loop.example/g00464/laws.FnLeans", spec := "fnLeans", unfollowed := true, recurses := true, apart := false, narrowed := true }
def FnLeansUptoSaid : Prop := fnLeansUptoRow.holds Try.pinned (OpenSpec.upto fnLeansSpec)

/-- 'laws.FnExactUsedBy', WHERE WHAT IT READS IS OF BULK AT MOST 1048576: true; the input reads as it did. -/
def fnExactUsedByUptoRow : OpenClaim := { program := "ytbhedlobiagngaa", sum := "73ce9ea8d3851bdf86122c276c750343f262c130d878bab936462c34797a92a7", func := "loop.example/g00464/laws.FnExactUsedBy", spec := "fnExactUsedBy", recurses := true, apart := false, narrowed := true }
def FnExactUsedByUptoSaid : Prop := fnExactUsedByUptoRow.holds Try.pinned (OpenSpec.upto fnExactUsedBySpec)

/-- 'laws.FnExactDeepUsedBy', WHERE WHAT IT READS IS OF BULK AT MOST 1048576: true; the input reads as it did. -/
def fnExactDeepUsedByUptoRow : OpenClaim := { program := "ytbhedlobiagngaa", sum := "73ce9ea8d3851bdf86122c276c750343f262c130d878bab936462c34797a92a7", func := "loop.example/g00464/laws.FnExactDeepUsedBy", spec := "fnExactDeepUsedBy", unfollowed := true, recurses := true, apart := false, narrowed := true }
def FnExactDeepUsedByUptoSaid : Prop := fnExactDeepUsedByUptoRow.holds Try.pinned (OpenSpec.upto fnExactDeepUsedBySpec)

/-- 'laws.FnExactOrder', WHERE WHAT IT READS IS OF BULK AT MOST 1048576: true; the input reads as it did. -/
def fnExactOrderUptoRow : OpenClaim := { program := "ytbhedlobiagngaa", sum := "73ce9ea8d3851bdf86122c276c750343f262c130d878bab936462c34797a92a7", func := "loop.example/g00464/laws.FnExactOrder", spec := "fnExactOrder", apart := false, narrowed := true }
def FnExactOrderUptoSaid : Prop := fnExactOrderUptoRow.holds Try.pinned (OpenSpec.upto fnExactOrderSpec)

end Rows
end Go.Proofs.Ytbhedlobiagngaa
