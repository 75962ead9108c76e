/- Known calls. -/
import Derived.Test.YtbpchkfpfcnlhaaGreatDoorSwA
namespace Go.Proofs.YtbpchkfpfcnlhaaGreatDoor.Sim
open Go.RowKit
set_option linter.unusedVariables false
set_option maxRecDepth 100000
theorem m0_ok : MeOk Tryz.prog tabG m0 := hcN (hs := mHS) (n := 3000) (TM.ok_all mmn) (by kernel_rfl)
theorem m1_ok : MeOk Tryz.prog tabG m1 := hcN (hs := mHS) (n := 3000) (TM.ok_all mmn) (by kernel_rfl)
end Go.Proofs.YtbpchkfpfcnlhaaGreatDoor.Sim
