/-
  What LessVer answers, the specification's: contracts for the walks; conditions: the lists of texts lie in memory as told, and hold no more than 2 to the 20.
-/
import Derived.Test.YtdnpfkknnaepoaaDoorVerG
import Derived.Test.YtdnpfkknnaepoaaDoorVerE
import Derived.Test.YtdnpfkknnaepoaaDoorVerF
namespace Go.Proofs.YtdnpfkknnaepoaaDoor
open Go.RowKit
set_option linter.unusedSimpArgs false
set_option linter.unusedVariables false

theorem quiet_ver {P : Program} {f : FuncId} {args : Array Value} {w : World} {n : Nat} {v : Value}
    (h : Calls P f args (w.drewN n) fun e w' => e = .returned v ∧ w.drewN n = w') : Calls P f args (w.drewN n) fun e w'' => e = .returned v ∧ ∃ m, w'' = w.drewN m :=
  h.mono fun _ _ ⟨he, hm⟩ => ⟨he, n, hm.symm⟩

theorem lessGo_at (ps ps' : List ByteArray) (k : Nat) (h : k < ps.length) (h' : k < ps'.length) : lessGo (ps.drop k) (ps'.drop k) = if ps[k] = ps'[k] then lessGo (ps.drop (k + 1)) (ps'.drop (k + 1)) else lessPart ps[k] ps'[k] := by
  rw [List.drop_eq_getElem_cons h, List.drop_eq_getElem_cons h', lessGo]
theorem lessGo_end (ps ps' : List ByteArray) (k : Nat) (h : k ≤ ps.length) (h' : k ≤ ps'.length) (he : ¬ (k < ps.length ∧ k < ps'.length)) : lessGo (ps.drop k) (ps'.drop k) = decide (ps.length < ps'.length) := by
  by_cases hk : k < ps.length
  · have : ps'.length = k := by omega
    rw [List.drop_eq_getElem_cons hk, List.drop_eq_nil_of_le (show ps'.length ≤ k by omega), lessGo, Bool.eq_iff_iff]
    simp; omega
  · rw [List.drop_eq_nil_of_le (show ps.length ≤ k by omega), lessGo, Bool.eq_iff_iff]
    simp; omega

end Go.Proofs.YtdnpfkknnaepoaaDoor
