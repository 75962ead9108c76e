/- A memory of any number of slots and cells, and one that is none. -/
import Derived.Test.YtdlamhjfnkkclaaMemNi
import Derived.Test.YtdlamhjfnkkclaaMemNl
import Derived.Test.YtdlamhjfnkkclaaMemNg
namespace Go.Proofs.Ytdlamhjfnkkclaa.Sim
open Go.RowKit
set_option maxRecDepth 100000
theorem news (G : Nat → AV) (s m i : Int) : PC Try.prog G 3 [I s, I m, I i] (Bo true) := by
  by_cases a : s < 0
  · by_cases b : m < 0
    · exact new_ll G s m i a b
    · by_cases c : 200 < m
      · exact new_lg G s m i a c
      · exact new_li G s m i a (by omega) (by omega)
  · by_cases a2 : 1000 < s
    · by_cases b : m < 0
      · exact new_gl G s m i a2 b
      · by_cases c : 200 < m
        · exact new_gg G s m i a2 c
        · exact new_gi G s m i a2 (by omega) (by omega)
    · by_cases b : m < 0
      · exact new_il G s m i (by omega) (by omega) b
      · by_cases c : 200 < m
        · exact new_ig G s m i (by omega) (by omega) c
        · exact new_ii G s m i (by omega) (by omega) (by omega) (by omega)
theorem MemNew_calls (as0 as1 as2 : List AV) (s0 : ShC Try.prog 3 as0) (s1 : ShC Try.prog 3 as1) (s2 : ShC Try.prog 3 as2) : PC Try.prog (fun _ => .unk) 3 [mkE (isAggT Try.prog 3) as0, mkE (isAggT Try.prog 3) as1, mkE (isAggT Try.prog 3) as2] (Bo true) := by
  obtain ⟨s, rfl, _⟩ := s0.i64_inv (by kernel_rfl)
  obtain ⟨m, rfl, _⟩ := s1.i64_inv (by kernel_rfl)
  obtain ⟨i, rfl, _⟩ := s2.i64_inv (by kernel_rfl)
  have e1 : isAggT Try.prog 3 = false := by kernel_rfl
  have := news (fun _ => .unk) s m i
  simpa [mkE, e1] using this
end Go.Proofs.Ytdlamhjfnkkclaa.Sim
