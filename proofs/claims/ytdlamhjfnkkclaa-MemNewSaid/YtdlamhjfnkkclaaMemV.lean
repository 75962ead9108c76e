/- A memory: the example. -/
import Derived.Test.YtdlamhjfnkkclaaAc14
import Derived.Test.YtdlamhjfnkkclaaLists
namespace Go.Proofs.Ytdlamhjfnkkclaa.Sim
open Go.RowKit
set_option maxRecDepth 100000
set_option linter.unusedSimpArgs false
set_option linter.unusedVariables false
theorem works (G : Nat → AV) : PC Try.prog G 18 [] (Bo true) := runsTo_true tab_ok (n := 1000) (by kernel_rfl)
end Go.Proofs.Ytdlamhjfnkkclaa.Sim
