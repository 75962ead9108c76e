/- Slots of which nothing is known: their pieces. -/
import Derived.Test.YtnammfeiehikfaaSimT
namespace Go.Proofs.Ytnammfeiehikfaa.Sim
open Go.RowKit
set_option linter.unusedVariables false
set_option linter.unusedSimpArgs false
theorem skp_len {k : Nat} {f : Nat → AV} {L : List AV} : (skp k f L).length = k + L.length := by simp [skp]
theorem skp_take {k n : Nat} {f : Nat → AV} {L : List AV} (h : k ≤ n) : (skp k f L).take n = skp k f (L.take (n - k)) := by
  unfold skp
  rw [List.take_append, List.take_of_length_le (by simpa using h)]; simp
theorem skp_drop {k n : Nat} {f : Nat → AV} {L : List AV} (h : k ≤ n) : (skp k f L).drop n = L.drop (n - k) := by
  unfold skp
  rw [List.drop_append, List.drop_of_length_le (by simpa using h)]; simp
theorem skp_app {k : Nat} {f : Nat → AV} {L M : List AV} : skp k f L ++ M = skp k f (L ++ M) := by simp [skp]
end Go.Proofs.Ytnammfeiehikfaa.Sim
