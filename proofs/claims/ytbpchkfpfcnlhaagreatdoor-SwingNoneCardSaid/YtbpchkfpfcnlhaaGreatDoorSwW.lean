/- The swing that is none. -/
import Derived.Test.YtbpchkfpfcnlhaaGreatDoorSwB
import Derived.Test.YtbpchkfpfcnlhaaGreatDoorSwC
import Derived.Test.YtbpchkfpfcnlhaaGreatDoorSwD
namespace Go.Proofs.YtbpchkfpfcnlhaaGreatDoor.Sim
open Go.RowKit
set_option linter.unusedVariables false
set_option maxRecDepth 100000
theorem SwingNone_calls (as0 as1 : List AV) (s0 : ShC Tryz.prog 23 as0) (s1 : ShC Tryz.prog 3 as1) : PC Tryz.prog tabG 3 [mkE (isAggT Tryz.prog 23) as0, mkE (isAggT Tryz.prog 3) as1] (Bo true) := by
  obtain ⟨p1, q1, rfl, a1, p2, q2, rfl, a2, p3, q3, rfl, a3, p4, q4, rfl, a4, p5, q5, rfl, a5, rfl⟩ := s0.fields (ts := [3, 9, 9, 9, 3]) Tryz.underlying23 rfl
  obtain ⟨n1, rfl, _, _⟩ := a1.i64_inv (by kernel_rfl)
  obtain ⟨t2, rfl, _⟩ := a2.str_inv (by kernel_rfl)
  obtain ⟨t3, rfl, _⟩ := a3.str_inv (by kernel_rfl)
  obtain ⟨t4, rfl, _⟩ := a4.str_inv (by kernel_rfl)
  obtain ⟨n5, rfl, _, _⟩ := a5.i64_inv (by kernel_rfl)
  obtain ⟨r, rfl, _, _⟩ := s1.i64_inv (by kernel_rfl)
  have e1 : isAggT Tryz.prog 3 = false := by kernel_rfl
  have e2 : isAggT Tryz.prog 23 = true := by kernel_rfl
  rw [e1, e2]
  exact runsN_true (n := 3000) (hs := mHS) (TM.ok_all (mmc m0_ok (mmc m1_ok (mmc m3_ok (mmc m4_ok (mmc m5_ok (mmc m6_ok (mmc m7_ok (mmc m8_ok (mmc m9_ok (mmc m10_ok (mmc m11_ok (mmc m12_ok (mmc m13_ok mmn)))))))))))))) (by kernel_rfl)
end Go.Proofs.YtbpchkfpfcnlhaaGreatDoor.Sim
