/- Known calls. -/
import Derived.Test.YtbpchkfpfcnlhaaGreatDoorSwA
namespace Go.Proofs.YtbpchkfpfcnlhaaGreatDoor.Sim
open Go.RowKit
set_option linter.unusedVariables false
set_option maxRecDepth 100000
theorem m8_ok : MeOk Tryz.prog tabG m8 := hcN (hs := mHS) (n := 3000) (TM.ok_all mmn) (by kernel_rfl)
theorem m9_ok : MeOk Tryz.prog tabG m9 := hcN (hs := mHS) (n := 3000) (TM.ok_all mmn) (by kernel_rfl)
theorem m10_ok : MeOk Tryz.prog tabG m10 := hcN (hs := mHS) (n := 3000) (TM.ok_all mmn) (by kernel_rfl)
theorem m11_ok : MeOk Tryz.prog tabG m11 := hcN (hs := mHS) (n := 3000) (TM.ok_all mmn) (by kernel_rfl)
theorem m12_ok : MeOk Tryz.prog tabG m12 := hcN (hs := mHS) (n := 3000) (TM.ok_all mmn) (by kernel_rfl)
theorem m13_ok : MeOk Tryz.prog tabG m13 := hcN (hs := mHS) (n := 3000) (TM.ok_all mmn) (by kernel_rfl)
end Go.Proofs.YtbpchkfpfcnlhaaGreatDoor.Sim
