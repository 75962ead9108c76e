/- Known calls. -/
import Derived.Test.YtedcpgcghedleaaGreatDoorClA
namespace Go.Proofs.YtedcpgcghedleaaGreatDoor.Sim
open Go.RowKit
set_option linter.unusedVariables false
set_option maxRecDepth 100000
theorem m22_ok : MeOk Tryz.prog tabG m22 := hcN (hs := mHS) (n := 3000) (TM.ok_all mmn) (by kernel_rfl)
theorem m23_ok : MeOk Tryz.prog tabG m23 := hcN (hs := mHS) (n := 3000) (TM.ok_all mmn) (by kernel_rfl)
theorem m24_ok : MeOk Tryz.prog tabG m24 := hcN (hs := mHS) (n := 3000) (TM.ok_all mmn) (by kernel_rfl)
theorem m25_ok : MeOk Tryz.prog tabG m25 := hcN (hs := mHS) (n := 3000) (TM.ok_all mmn) (by kernel_rfl)
theorem m26_ok : MeOk Tryz.prog tabG m26 := hcN (hs := mHS) (n := 3000) (TM.ok_all (mmc m25_ok mmn)) (by kernel_rfl)
theorem m27_ok : MeOk Tryz.prog tabG m27 := hcN (hs := mHS) (n := 3000) (TM.ok_all (mmc m26_ok mmn)) (by kernel_rfl)
theorem m28_ok : MeOk Tryz.prog tabG m28 := hcN (hs := mHS) (n := 3000) (TM.ok_all mmn) (by kernel_rfl)
theorem m29_ok : MeOk Tryz.prog tabG m29 := hcN (hs := mHS) (n := 3000) (TM.ok_all (mmc m28_ok mmn)) (by kernel_rfl)
theorem m30_ok : MeOk Tryz.prog tabG m30 := hcN (hs := mHS) (n := 3000) (TM.ok_all (mmc m29_ok mmn)) (by kernel_rfl)
theorem m31_ok : MeOk Tryz.prog tabG m31 := hcN (hs := mHS) (n := 3000) (TM.ok_all mmn) (by kernel_rfl)
theorem m32_ok : MeOk Tryz.prog tabG m32 := hcN (hs := mHS) (n := 3000) (TM.ok_all (mmc m31_ok mmn)) (by kernel_rfl)
theorem m33_ok : MeOk Tryz.prog tabG m33 := hcN (hs := mHS) (n := 3000) (TM.ok_all (mmc m32_ok mmn)) (by kernel_rfl)
theorem m34_ok : MeOk Tryz.prog tabG m34 := hcN (hs := mHS) (n := 3000) (TM.ok_all mmn) (by kernel_rfl)
theorem m35_ok : MeOk Tryz.prog tabG m35 := hcN (hs := mHS) (n := 3000) (TM.ok_all (mmc m22_ok (mmc m23_ok (mmc m24_ok (mmc m27_ok (mmc m30_ok (mmc m33_ok (mmc m34_ok mmn)))))))) (by kernel_rfl)
end Go.Proofs.YtedcpgcghedleaaGreatDoor.Sim
