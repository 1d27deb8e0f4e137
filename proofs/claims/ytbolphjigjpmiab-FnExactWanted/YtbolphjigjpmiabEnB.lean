/-
  Copies in memory of their own, as the law makes them: contracts for the walks; condition: what is copied holds at most 2 to the 20.
-/
import Derived.Test.YtbolphjigjpmiabEnA
import Derived.Test.YtbolphjigjpmiabPkB
namespace Go.Proofs.Ytbolphjigjpmiab
open Go.RowKit
set_option linter.unusedSimpArgs false
set_option linter.unusedVariables false

end Go.Proofs.Ytbolphjigjpmiab
