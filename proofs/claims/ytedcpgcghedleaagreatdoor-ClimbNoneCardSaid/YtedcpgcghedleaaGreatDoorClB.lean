/- Known calls. -/
import Derived.Test.YtedcpgcghedleaaGreatDoorClA
namespace Go.Proofs.YtedcpgcghedleaaGreatDoor.Sim
open Go.RowKit
set_option linter.unusedVariables false
set_option maxRecDepth 100000
theorem m13_ok : MeOk Tryz.prog tabG m13 := hcN (hs := mHS) (n := 3000) (TM.ok_all (mmc m6_ok (mmc m9_ok (mmc m12_ok mmn)))) (by kernel_rfl)
theorem m14_ok : MeOk Tryz.prog tabG m14 := hcN (hs := mHS) (n := 3000) (TM.ok_all (mmc m5_ok (mmc m13_ok mmn))) (by kernel_rfl)
theorem m15_ok : MeOk Tryz.prog tabG m15 := hcN (hs := mHS) (n := 3000) (TM.ok_all mmn) (by kernel_rfl)
theorem m16_ok : MeOk Tryz.prog tabG m16 := hcN (hs := mHS) (n := 3000) (TM.ok_all mmn) (by kernel_rfl)
theorem m17_ok : MeOk Tryz.prog tabG m17 := hcN (hs := mHS) (n := 3000) (TM.ok_all mmn) (by kernel_rfl)
theorem m18_ok : MeOk Tryz.prog tabG m18 := hcN (hs := mHS) (n := 3000) (TM.ok_all mmn) (by kernel_rfl)
theorem m19_ok : MeOk Tryz.prog tabG m19 := hcN (hs := mHS) (n := 3000) (TM.ok_all mmn) (by kernel_rfl)
theorem m20_ok : MeOk Tryz.prog tabG m20 := hcN (hs := mHS) (n := 3000) (TM.ok_all mmn) (by kernel_rfl)
theorem m21_ok : MeOk Tryz.prog tabG m21 := hcN (hs := mHS) (n := 3000) (TM.ok_all (mmc m0_ok (mmc m1_ok (mmc m2_ok (mmc m4_ok (mmc m14_ok (mmc m15_ok (mmc m16_ok (mmc m17_ok (mmc m18_ok (mmc m19_ok (mmc m20_ok mmn)))))))))))) (by kernel_rfl)
end Go.Proofs.YtedcpgcghedleaaGreatDoor.Sim
