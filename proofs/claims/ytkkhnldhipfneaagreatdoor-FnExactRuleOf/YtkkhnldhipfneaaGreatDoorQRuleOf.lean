/-
  Whatever task and whatever value come in: the program and the specification read the same rule, or neither does, nothing is written into the value, and the answer owns its memory; no condition (what holds more than 2 to the 20 is passed by, as the law says) but that the program's own error holds at the start what the program text lays, which the card ties.
-/
import Derived.Test.YtkkhnldhipfneaaGreatDoorQ9
namespace Go.Proofs.YtkkhnldhipfneaaGreatDoor.fnExactRuleOf
open Go.ChangeShapes Go.WideShapes Go.ChangeAt Go.RowKit
open Go.ChangeMaps (open_string shut_string)
set_option linter.unusedVariables false

theorem said : Rows.FnExactRuleOfSaid :=
  OpenClaim.holds_of_cond 4 Tryz.f4 rfl rfl rfl rfl rfl rfl rfl ⟨rfl, rfl, rfl, rfl, rfl⟩ rfl rfl rfl rfl rfl (by kernel_rfl) Tryz.func4 closed
    (of_decide_eq_true (by kernel_rfl)) (by unfold Func.isWrapper; first | (rw [if_pos (by decide +kernel)]; kernel_rfl) | (rw [if_neg (by decide +kernel)]; exact ⟨rfl, rfl⟩))
    (fun os started H enc _ F => by rw [OpenClaim.pre_eq_preRow]; exact lifted os started H enc F)

theorem plain (f : FuncId) (fn : Func) (hf : Tryz.pinned.checked.prog.funcNamed "loop.example/g00464/laws.FnExactRuleOf" = some f) (hfn : Tryz.pinned.checked.prog.funcs[f]? = some fn) :
    true = Tryz.pinned.checked.prog.looks [] ∧ ∀ (j : Nat) t, fn.params[j]? = some t → Tryz.pinned.checked.prog.wantsStandIn t = false := by
  obtain rfl : f = 4 := Option.some.inj ((show Tryz.prog.funcNamed "loop.example/g00464/laws.FnExactRuleOf" = some 4 by kernel_rfl).symm.trans hf) |>.symm
  obtain rfl : fn = Tryz.f4 := (Option.some.inj (Tryz.func4.symm.trans hfn)).symm
  refine ⟨by kernel_rfl, fun j t ht => ?_⟩
  have hall : (Tryz.f4.params.toList.all fun t => Tryz.prog.wantsStandIn t == false) = true := by kernel_rfl
  exact beq_iff_eq.1 (List.all_eq_true.1 hall t (Array.mem_toList_iff.2 (Array.mem_of_getElem? ht)))

theorem card : Rows.FnExactRuleOfCardSaid :=
  Claim7.holds_tied_plain_at .later [] _ _ _ _ said (fun _ h => by cases h) wfT (fun _ h => by cases h) fnExactRuleOf_row_tie rfl ⟨rfl, rfl⟩ (by kernel_rfl) rfl plain goesT
end Go.Proofs.YtkkhnldhipfneaaGreatDoor.fnExactRuleOf
namespace Go.Proofs.YtkkhnldhipfneaaGreatDoor
theorem fnExactRuleOf_holds : Rows.FnExactRuleOfCardSaid := fnExactRuleOf.card
#print axioms fnExactRuleOf_holds
end Go.Proofs.YtkkhnldhipfneaaGreatDoor
