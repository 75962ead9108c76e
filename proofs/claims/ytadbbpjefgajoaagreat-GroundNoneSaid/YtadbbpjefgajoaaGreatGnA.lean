/- The ground: one that is none has nothing. -/
import Derived.Test.YtadbbpjefgajoaaGreatSimVn
import Derived.Test.YtadbbpjefgajoaaGreatSimY
import Derived.Test.YtadbbpjefgajoaaGreatProg
namespace Go.Proofs.YtadbbpjefgajoaaGreat.Sim
open Go.RowKit
set_option linter.unusedVariables false
set_option maxRecDepth 100000
theorem GroundNone_calls (as0 : List AV) (s0 : ShC Tryz.prog 3 as0) : PC Tryz.prog (fun _ => .unk) 3 [mkE (isAggT Tryz.prog 3) as0] (Bo true) := by
  obtain ⟨r, rfl, _, _⟩ := s0.i64_inv (by kernel_rfl)
  have e1 : isAggT Tryz.prog 3 = false := by kernel_rfl
  rw [e1]
  exact runsN_true (n := 3000) (hs := [4,5,6,7,9,10,11,14,15,16,19,20,22,23,25,28,29,32,33,35,36,38,40,41,42,44,45,48,50,52,54,55,56,57,58,64,65,66,67,68,69,70,72,73,76,77,78,80,81,84,85,86,87,88,90,91,93,95,96,98,99,100,108,109]) Tab.ok_all (by kernel_rfl)
end Go.Proofs.YtadbbpjefgajoaaGreat.Sim
