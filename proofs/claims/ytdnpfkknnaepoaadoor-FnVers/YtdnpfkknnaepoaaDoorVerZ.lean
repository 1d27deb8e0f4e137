/-
  What the function that draws two versions, alike or not, answers: a contract for the walks; conditions: what comes in lies in memory as told.
-/
import Derived.Test.YtdnpfkknnaepoaaDoorVerY
namespace Go.Proofs.YtdnpfkknnaepoaaDoor
open Go.RowKit
set_option linter.unusedSimpArgs false
set_option linter.unusedVariables false
attribute [local go_sem ↓] Go.wp_at_zero Go.wp_at_succ

end Go.Proofs.YtdnpfkknnaepoaaDoor
