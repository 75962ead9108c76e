/- The chapter's examples. -/
import Derived.Test.YtoeddlcidbmppaaFloat
namespace Go.Proofs.Ytoeddlcidbmppaa.Fl
open Go.RowKit
set_option linter.unusedVariables false
theorem nan0 : isnan 0 = false := by kernel_rfl
theorem nanm : isnan 9223372036854775808 = false := by kernel_rfl
theorem low0 : low 0 = false := by unfold low; exact decide_eq_false (by omega)
theorem lowm : low 9223372036854775808 = true := by unfold low; exact decide_eq_true (by omega)
theorem rk0 : rk 0 = 9223372036854775808 := by unfold rk; rw [nan0, low0]; rfl
theorem rkm : rk 9223372036854775808 = 9223372036854775807 := by unfold rk; rw [nanm, lowm]; simp
theorem lt_self (a : Nat) : lt a a = false := by
  unfold lt
  cases h : isnan a
  · have h' := h
    unfold isnan at h'
    simp at h'
    simp [h']
  · simp
theorem same_self (a : Nat) (w : World) : Calls Try.prog 18 #[.float .f64 a, .float .f64 a] w (Quiet (.bool true) w) := by
  have h := RefSame_calls a a w
  rw [lt_self] at h
  exact h
theorem div1 : floatBits .quo .f64 9223372036854775808 (floatOfInt .f64 1) = some 9223372036854775808 := by kernel_rfl
end Go.Proofs.Ytoeddlcidbmppaa.Fl
