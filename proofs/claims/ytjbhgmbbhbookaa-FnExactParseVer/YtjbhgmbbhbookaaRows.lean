/-
  NARROWER THAN 'FOR EVERY INPUT', by the rows' own cells (each row's printed sentence says how): FnExactSameVal: loops.
  DERIVED. THE GIVEN ROWS OF THIS SEAT. 6 by the template 'for every input the law returns true; each argument reads behind the call as it read before'; 0 by the template 'total and deterministic' (their statements: YtjbhgmbbhbookaaTotals.lean).
  GIVEN WITH THE SEED: the statements are not yours to turn. If you find one false, say at which input.
  Laid BY PROGRAM, IN A SANDBOX (cutbox-rows.mjs): the forced cells as the released guide's own fill.sh prints them over the translation 704eda8cf083227d… (all of the seat's roots in one cut). By AI agents, Wed Nov 11 2026. No macro, syntax, notation, axiom, sorry.
-/
import Derived.Test.YtjbhgmbbhbookaaChecked
import GoSem.Claim
import GoSem.ClaimJoined
import GoSem.ClaimMapViews
import Derived.JoinedTies
import Derived.KernelRfl
namespace Go.Proofs.Ytjbhgmbbhbookaa
/- THE CELL 'sum', in the pinned program and in every row, IS THE sha256 OF THE DUMP (.gsa) THAT YtjbhgmbbhbookaaProg.lean LOADS. Nothing in Lean hashes anything: it is a label: what it is worth is what the hold of that sum in a sandbox is worth. -/
noncomputable def Try.pinned : Pinned := { name := "ytjbhgmbbhbookaa", sum := "704eda8cf083227d83b9238288e45363f9a669cd37a983f945499ec9d5e0e774", checked := Try.checked }
namespace Rows
def none {H : Type} : Left H := { results := [], args := [] }

/-- 'laws.FnVersBent': WHATEVER THE INPUT: true; the input reads as it did. -/
def fnVersBentSpec : ChangeSpec := { name := "fnVersBent", fn := fun _ => fun
  | [d] => { results := [.lit (.bool true)], args := [d] }
  | _ => none }
def fnVersBentRow : OpenClaim := { program := "ytjbhgmbbhbookaa", sum := "704eda8cf083227d83b9238288e45363f9a669cd37a983f945499ec9d5e0e774", func := "loop.example/g00464/laws.FnVersBent", spec := "fnVersBent", unfollowed := true, recurses := true, plainKeys := false, apart := false }
def FnVersBentSaid : Prop := fnVersBentRow.holds Try.pinned (OpenSpec.ofChange fnVersBentSpec)

/-- ITS FALSE NEIGHBOUR: 'it returns false'. Refute it at one input. -/
def fnVersBentWrong : ChangeSpec := { name := "fnVersBent", fn := fun _ => fun
  | [d] => { results := [.lit (.bool false)], args := [d] }
  | _ => none }
def FnVersBentWrongFalsely : Prop := fnVersBentRow.holds Try.pinned (OpenSpec.ofChange fnVersBentWrong)

/-- 'laws.FnExactSameVal': WHATEVER THE INPUT: true; the input reads as it did. -/
def fnExactSameValSpec : ChangeSpec := { name := "fnExactSameVal", fn := fun _ => fun
  | [d1, d2] => { results := [.lit (.bool true)], args := [d1, d2] }
  | _ => none }
def fnExactSameValRow : OpenClaim := { program := "ytjbhgmbbhbookaa", sum := "704eda8cf083227d83b9238288e45363f9a669cd37a983f945499ec9d5e0e774", func := "loop.example/g00464/laws.FnExactSameVal", spec := "fnExactSameVal", recurses := true, loops := true, plainKeys := false, apart := false }
def FnExactSameValSaid : Prop := fnExactSameValRow.holds Try.pinned (OpenSpec.ofChange fnExactSameValSpec)

/-- ITS FALSE NEIGHBOUR: 'it returns false'. Refute it at one input. -/
def fnExactSameValWrong : ChangeSpec := { name := "fnExactSameVal", fn := fun _ => fun
  | [d1, d2] => { results := [.lit (.bool false)], args := [d1, d2] }
  | _ => none }
def FnExactSameValWrongFalsely : Prop := fnExactSameValRow.holds Try.pinned (OpenSpec.ofChange fnExactSameValWrong)

/-- 'laws.FnExactVerOk': WHATEVER THE INPUT: true; the input reads as it did. -/
def fnExactVerOkSpec : ChangeSpec := { name := "fnExactVerOk", fn := fun _ => fun
  | [d] => { results := [.lit (.bool true)], args := [d] }
  | _ => none }
def fnExactVerOkRow : OpenClaim := { program := "ytjbhgmbbhbookaa", sum := "704eda8cf083227d83b9238288e45363f9a669cd37a983f945499ec9d5e0e774", func := "loop.example/g00464/laws.FnExactVerOk", spec := "fnExactVerOk", plainKeys := false, apart := false }
def FnExactVerOkSaid : Prop := fnExactVerOkRow.holds Try.pinned (OpenSpec.ofChange fnExactVerOkSpec)

/-- ITS FALSE NEIGHBOUR: 'it returns false'. Refute it at one input. -/
def fnExactVerOkWrong : ChangeSpec := { name := "fnExactVerOk", fn := fun _ => fun
  | [d] => { results := [.lit (.bool false)], args := [d] }
  | _ => none }
def FnExactVerOkWrongFalsely : Prop := fnExactVerOkRow.holds Try.pinned (OpenSpec.ofChange fnExactVerOkWrong)

/-- 'laws.FnExactParseVer': WHATEVER THE INPUT: true; the input reads as it did. -/
def fnExactParseVerSpec : ChangeSpec := { name := "fnExactParseVer", fn := fun _ => fun
  | [d] => { results := [.lit (.bool true)], args := [d] }
  | _ => none }
def fnExactParseVerRow : OpenClaim := { program := "ytjbhgmbbhbookaa", sum := "704eda8cf083227d83b9238288e45363f9a669cd37a983f945499ec9d5e0e774", func := "loop.example/g00464/laws.FnExactParseVer", spec := "fnExactParseVer", plainKeys := false, apart := false }
def FnExactParseVerSaid : Prop := fnExactParseVerRow.holds Try.pinned (OpenSpec.ofChange fnExactParseVerSpec)

/-- ITS FALSE NEIGHBOUR: 'it returns false'. Refute it at one input. -/
def fnExactParseVerWrong : ChangeSpec := { name := "fnExactParseVer", fn := fun _ => fun
  | [d] => { results := [.lit (.bool false)], args := [d] }
  | _ => none }
def FnExactParseVerWrongFalsely : Prop := fnExactParseVerRow.holds Try.pinned (OpenSpec.ofChange fnExactParseVerWrong)

/-- 'laws.FnExactLessVer': WHATEVER THE INPUT: true; the input reads as it did. -/
def fnExactLessVerSpec : ChangeSpec := { name := "fnExactLessVer", fn := fun _ => fun
  | [d1, d2] => { results := [.lit (.bool true)], args := [d1, d2] }
  | _ => none }
def fnExactLessVerRow : OpenClaim := { program := "ytjbhgmbbhbookaa", sum := "704eda8cf083227d83b9238288e45363f9a669cd37a983f945499ec9d5e0e774", func := "loop.example/g00464/laws.FnExactLessVer", spec := "fnExactLessVer", unfollowed := true, recurses := true, plainKeys := false, apart := false }
def FnExactLessVerSaid : Prop := fnExactLessVerRow.holds Try.pinned (OpenSpec.ofChange fnExactLessVerSpec)

/-- ITS FALSE NEIGHBOUR: 'it returns false'. Refute it at one input. -/
def fnExactLessVerWrong : ChangeSpec := { name := "fnExactLessVer", fn := fun _ => fun
  | [d1, d2] => { results := [.lit (.bool false)], args := [d1, d2] }
  | _ => none }
def FnExactLessVerWrongFalsely : Prop := fnExactLessVerRow.holds Try.pinned (OpenSpec.ofChange fnExactLessVerWrong)

/-- 'laws.FnExactSameVer': WHATEVER THE INPUT: true; the input reads as it did. -/
def fnExactSameVerSpec : ChangeSpec := { name := "fnExactSameVer", fn := fun _ => fun
  | [d1, d2] => { results := [.lit (.bool true)], args := [d1, d2] }
  | _ => none }
def fnExactSameVerRow : OpenClaim := { program := "ytjbhgmbbhbookaa", sum := "704eda8cf083227d83b9238288e45363f9a669cd37a983f945499ec9d5e0e774", func := "loop.example/g00464/laws.FnExactSameVer", spec := "fnExactSameVer", plainKeys := false, apart := false }
def FnExactSameVerSaid : Prop := fnExactSameVerRow.holds Try.pinned (OpenSpec.ofChange fnExactSameVerSpec)

/-- ITS FALSE NEIGHBOUR: 'it returns false'. Refute it at one input. -/
def fnExactSameVerWrong : ChangeSpec := { name := "fnExactSameVer", fn := fun _ => fun
  | [d1, d2] => { results := [.lit (.bool false)], args := [d1, d2] }
  | _ => none }
def FnExactSameVerWrongFalsely : Prop := fnExactSameVerRow.holds Try.pinned (OpenSpec.ofChange fnExactSameVerWrong)

/- THE SECOND FORM. 'bulk': how many values and letters a reading holds, each counted each time it is reached (what is shared counts as often as it is met; a slice's spare places count too). A statement '..UptoSaid' is the law's where the arguments, and the package variables that the reading takes, are together of bulk at most 1048576: NARROWER than '..Said'. Prove '..Said' where nothing that the law and all that it calls make is longer than what came in: it says more and counts as full. Else prove '..UptoSaid'. A law counts once. -/
mutual
def uptoBulk {H : Type} : DataW H → Nat
  | .lit (.string bytes) => bytes.length + 1
  | .lit _ => 1
  | .nil => 1
  | .ptr d => uptoBulk d + 1
  | .slice elems spare => uptoBulkAll elems + uptoBulkAll spare + 1
  | .agg parts => uptoBulkAll parts + 1
  | .iface _ d => uptoBulk d + 1
  | .map entries => uptoBulkEntries entries + 1
  | .held _ => 1
def uptoBulkAll {H : Type} : List (DataW H) → Nat
  | [] => 0
  | d :: r => uptoBulk d + uptoBulkAll r
def uptoBulkEntries {H : Type} : List (Lit × DataW H) → Nat
  | [] => 0
  | x :: r => uptoBulkEntry x + uptoBulkEntries r
def uptoBulkEntry {H : Type} : Lit × DataW H → Nat
  | (.string bytes, d) => bytes.length + uptoBulk d + 1
  | (_, d) => uptoBulk d + 1
 end
def uptoSmall : (H : Type) → List (DataW H) → Bool := fun _ ds => decide (uptoBulkAll ds ≤ 1048576)
def OpenSpec.upto (s : _root_.Go.ChangeSpec) : _root_.Go.OpenSpec := { _root_.Go.OpenSpec.ofChange s with cond := some uptoSmall }

/-- 'laws.FnVersBent', WHERE WHAT IT READS IS OF BULK AT MOST 1048576: true; the input reads as it did. -/
def fnVersBentUptoRow : OpenClaim := { program := "ytjbhgmbbhbookaa", sum := "704eda8cf083227d83b9238288e45363f9a669cd37a983f945499ec9d5e0e774", func := "loop.example/g00464/laws.FnVersBent", spec := "fnVersBent", unfollowed := true, recurses := true, plainKeys := false, apart := false, narrowed := true }
def FnVersBentUptoSaid : Prop := fnVersBentUptoRow.holds Try.pinned (OpenSpec.upto fnVersBentSpec)

/-- 'laws.FnExactSameVal', WHERE WHAT IT READS IS OF BULK AT MOST 1048576: true; the input reads as it did. -/
def fnExactSameValUptoRow : OpenClaim := { program := "ytjbhgmbbhbookaa", sum := "704eda8cf083227d83b9238288e45363f9a669cd37a983f945499ec9d5e0e774", func := "loop.example/g00464/laws.FnExactSameVal", spec := "fnExactSameVal", recurses := true, loops := true, plainKeys := false, apart := false, narrowed := true }
def FnExactSameValUptoSaid : Prop := fnExactSameValUptoRow.holds Try.pinned (OpenSpec.upto fnExactSameValSpec)

/-- 'laws.FnExactVerOk', WHERE WHAT IT READS IS OF BULK AT MOST 1048576: true; the input reads as it did. -/
def fnExactVerOkUptoRow : OpenClaim := { program := "ytjbhgmbbhbookaa", sum := "704eda8cf083227d83b9238288e45363f9a669cd37a983f945499ec9d5e0e774", func := "loop.example/g00464/laws.FnExactVerOk", spec := "fnExactVerOk", plainKeys := false, apart := false, narrowed := true }
def FnExactVerOkUptoSaid : Prop := fnExactVerOkUptoRow.holds Try.pinned (OpenSpec.upto fnExactVerOkSpec)

/-- 'laws.FnExactParseVer', WHERE WHAT IT READS IS OF BULK AT MOST 1048576: true; the input reads as it did. -/
def fnExactParseVerUptoRow : OpenClaim := { program := "ytjbhgmbbhbookaa", sum := "704eda8cf083227d83b9238288e45363f9a669cd37a983f945499ec9d5e0e774", func := "loop.example/g00464/laws.FnExactParseVer", spec := "fnExactParseVer", plainKeys := false, apart := false, narrowed := true }
def FnExactParseVerUptoSaid : Prop := fnExactParseVerUptoRow.holds Try.pinned (OpenSpec.upto fnExactParseVerSpec)

/-- 'laws.FnExactLessVer', WHERE WHAT IT READS IS OF BULK AT MOST 1048576: true; the input reads as it did. -/
def fnExactLessVerUptoRow : OpenClaim := { program := "ytjbhgmbbhbookaa", sum := "704eda8cf083227d83b9238288e45363f9a669cd37a983f945499ec9d5e0e774", func := "loop.example/g00464/laws.FnExactLessVer", spec := "fnExactLessVer", unfollowed := true, recurses := true, plainKeys := false, apart := false, narrowed := true }
def FnExactLessVerUptoSaid : Prop := fnExactLessVerUptoRow.holds Try.pinned (OpenSpec.upto fnExactLessVerSpec)

/-- 'laws.FnExactSameVer', WHERE WHAT IT READS IS OF BULK AT MOST 1048576: true; the input reads as it did. -/
def fnExactSameVerUptoRow : OpenClaim := { program := "ytjbhgmbbhbookaa", sum := "704eda8cf083227d83b9238288e45363f9a669cd37a983f945499ec9d5e0e774", func := "loop.example/g00464/laws.FnExactSameVer", spec := "fnExactSameVer", plainKeys := false, apart := false, narrowed := true }
def FnExactSameVerUptoSaid : Prop := fnExactSameVerUptoRow.holds Try.pinned (OpenSpec.upto fnExactSameVerSpec)

end Rows
end Go.Proofs.Ytjbhgmbbhbookaa
