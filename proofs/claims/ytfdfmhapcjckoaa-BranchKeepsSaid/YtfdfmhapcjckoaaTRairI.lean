/- Bindings: lists put one behind the other. -/
import Derived.Test.YtfdfmhapcjckoaaTSimW
import Derived.Test.YtfdfmhapcjckoaaTRairH
namespace Go.Proofs.Ytfdfmhapcjckoaa.Sim.Pr7
open Go.RowKit
set_option maxRecDepth 100000
set_option linter.unusedSimpArgs false
set_option linter.unusedVariables false
theorem capN {ty : TypeId} {cs : Array Bool} : pureRun Try.prog (builtin .cap #[25] ty cs #[.slice none 0 0]) = some (.value (.int .i64 0)) := bi_cap (e := 62) (by kernel_rfl)
end Go.Proofs.Ytfdfmhapcjckoaa.Sim.Pr7
