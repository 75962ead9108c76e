/- Cells: the example. -/
import Derived.Test.YtniackbkhfhpaaaAc12
import Derived.Test.YtniackbkhfhpaaaLists
namespace Go.Proofs.Ytniackbkhfhpaaa.Sim
open Go.RowKit
set_option maxRecDepth 100000
set_option linter.unusedSimpArgs false
set_option linter.unusedVariables false
theorem works (G : Nat → AV) : PC Try.prog G 12 [] (Bo true) := runsTo_true tab_ok (n := 500) (by kernel_rfl)
end Go.Proofs.Ytniackbkhfhpaaa.Sim
