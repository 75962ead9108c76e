/- Bindings: searched by halves. -/
import Derived.Test.YtfdfmhapcjckoaaTSimW
import Derived.Test.YtfdfmhapcjckoaaTRairE
import Derived.Test.YtfdfmhapcjckoaaTSimU
namespace Go.Proofs.Ytfdfmhapcjckoaa.Sim.Pr7
open Go.RowKit
set_option maxRecDepth 100000
set_option linter.unusedSimpArgs false
set_option linter.unusedVariables false
abbrev kfA (f : Nat) (key : ByteArray) : AV := .fn f [.ad 1 [S key] 0 0]
/-- Where a key stands. -/
theorem lo_idx {m : List Pr} (h : SLe m) (key : ByteArray) (i : Nat) (hi : i < m.length) : decide (0 ≤ cB (m[i]).1 key) = decide ((lo m key).length ≤ i) := by
  have := idx_lo h key hi
  by_cases h1 : 0 ≤ cB (m[i]).1 key
  · simp [h1]; omega
  · simp [h1]; omega
theorem le_idx {m : List Pr} (h : SLe m) (key : ByteArray) (i : Nat) (hi : i < m.length) : decide (0 < cB (m[i]).1 key) = decide ((le m key).length ≤ i) := by
  have := idx_le h key hi
  by_cases h1 : 0 < cB (m[i]).1 key
  · simp [h1]; omega
  · simp [h1]; omega
end Go.Proofs.Ytfdfmhapcjckoaa.Sim.Pr7
