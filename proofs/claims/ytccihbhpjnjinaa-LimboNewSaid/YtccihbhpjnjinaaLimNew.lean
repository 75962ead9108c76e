/- Any number of lists, and lists that are none. -/
import Derived.Test.YtccihbhpjnjinaaLimN
import Derived.Test.YtccihbhpjnjinaaLimO
namespace Go.Proofs.Ytccihbhpjnjinaa.Sim
open Go.RowKit
set_option maxRecDepth 100000
theorem news (G : Nat → AV) (n i : Int) : PC Try.prog G 6 [I n, I i] (Bo true) := by
  by_cases a : n < 0
  · exact new_l G n i a
  · by_cases b : 64 < n
    · exact new_g G n i b
    · obtain ⟨m, rfl⟩ := Int.eq_ofNat_of_zero_le (show 0 ≤ n by omega)
      by_cases c : i < 0
      · exact new_il G m i (by omega) c
      · by_cases d : (m : Int) ≤ i
        · exact new_ig G m i (by omega) d
        · obtain ⟨j, rfl⟩ := Int.eq_ofNat_of_zero_le (show 0 ≤ i by omega)
          exact new_ii G m j (by omega) (by omega)
theorem LimboNew_calls (as0 as1 : List AV) (s0 : ShC Try.prog 3 as0) (s1 : ShC Try.prog 3 as1) : PC Try.prog (fun _ => .unk) 6 [mkE (isAggT Try.prog 3) as0, mkE (isAggT Try.prog 3) as1] (Bo true) := by
  obtain ⟨n, rfl, _⟩ := s0.i64_inv (by kernel_rfl)
  obtain ⟨i, rfl, _⟩ := s1.i64_inv (by kernel_rfl)
  have e1 : isAggT Try.prog 3 = false := by kernel_rfl
  have := news (fun _ => .unk) n i
  simpa [mkE, e1] using this
end Go.Proofs.Ytccihbhpjnjinaa.Sim
