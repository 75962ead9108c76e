/- Known calls. -/
import Derived.Test.YtbpchkfpfcnlhaaGreatDoorSwA
import Derived.Test.YtbpchkfpfcnlhaaGreatDoorSwP
namespace Go.Proofs.YtbpchkfpfcnlhaaGreatDoor.Sim
open Go.RowKit
set_option linter.unusedVariables false
set_option maxRecDepth 100000
theorem m3_ok : MeOk Tryz.prog tabG m3 := hcN (hs := mHS) (n := 3000) (TM.ok_all (mmc m2_ok mmn)) (by kernel_rfl)
theorem m4_ok : MeOk Tryz.prog tabG m4 := hcN (hs := mHS) (n := 3000) (TM.ok_all mmn) (by kernel_rfl)
theorem m5_ok : MeOk Tryz.prog tabG m5 := hcN (hs := mHS) (n := 3000) (TM.ok_all mmn) (by kernel_rfl)
theorem m6_ok : MeOk Tryz.prog tabG m6 := hcN (hs := mHS) (n := 3000) (TM.ok_all mmn) (by kernel_rfl)
theorem m7_ok : MeOk Tryz.prog tabG m7 := hcN (hs := mHS) (n := 3000) (TM.ok_all mmn) (by kernel_rfl)
end Go.Proofs.YtbpchkfpfcnlhaaGreatDoor.Sim
