/- Histories: the law of one more event. -/
import Derived.Test.YtjooigegjkpdpaaHiJ
import Derived.Test.YtjooigegjkpdpaaHiV
namespace Go.Proofs.Ytjooigegjkpdpaa.Sim
open Go.RowKit
set_option maxRecDepth 100000
set_option linter.unusedSimpArgs false
set_option linter.unusedVariables false
theorem HistAdds_calls (as0 as1 as2 as3 : List AV) (s0 : ShC Try.prog 22 as0) (s1 : ShC Try.prog 3 as1) (s2 : ShC Try.prog 38 as2) (s3 : ShC Try.prog 40 as3) : PC Try.prog (fun _ => .unk) 4 [mkE (isAggT Try.prog 22) as0, mkE (isAggT Try.prog 3) as1, mkE (isAggT Try.prog 38) as2, mkE (isAggT Try.prog 40) as3] (Bo true) := by
  have e1 : isAggT Try.prog 22 = false := by kernel_rfl
  have e2 : isAggT Try.prog 3 = false := by kernel_rfl
  have e3 : isAggT Try.prog 38 = true := by kernel_rfl
  have e4 : isAggT Try.prog 40 = true := by kernel_rfl
  have i1 : (Try.prog).underlying 3 = some (.int .i64) := by kernel_rfl
  obtain ⟨l, rfl, hl⟩ := evs_inv s0
  obtain ⟨n, rfl, _⟩ := s1.i64_inv i1
  obtain ⟨c, rfl⟩ := call_inv s2
  obtain ⟨a, rfl⟩ := ans_inv s3
  rw [e1, e2, e3, e4]
  exact law4 l hl n c a
end Go.Proofs.Ytjooigegjkpdpaa.Sim
