/- The laws of layer 2. -/
import Derived.Test.YtoeddlcidbmppaaFloat2
namespace Go.Proofs.Ytoeddlcidbmppaa.Fl
open Go.RowKit
set_option linter.unusedVariables false
theorem nanq : isnan 9221120237041090561 = true := by kernel_rfl
theorem rkq : rk 9221120237041090561 = 18444492273895866369 := by unfold rk; rw [nanq]; rfl
theorem back (x : Nat) (hx : x < 18446744073709551616) : uok (rk x) = true ∧ (uf (rk x) < 18446744073709551616) ∧ rk (uf (rk x)) = rk x := by
  cases h : isnan x
  · have e : ub (rk x) = x := by
      unfold ub rk low
      rw [h]
      by_cases hl : 9223372036854775808 ≤ x
      · simp only [Bool.false_eq_true, if_false, decide_eq_true hl, if_true]
        rw [if_neg (by omega)]; omega
      · simp only [Bool.false_eq_true, if_false, decide_eq_false hl]
        rw [if_pos (by omega)]; omega
    have u : uok (rk x) = true := by unfold uok; rw [e, h]; simp
    have f : uf (rk x) = x := by unfold uf; rw [u, e]; rfl
    exact ⟨u, by rw [f]; exact hx, by rw [f]⟩
  · have e : rk x = 18444492273895866369 := by unfold rk; rw [h]; rfl
    have u : uok 18444492273895866369 = true := by unfold uok; rw [beq_self_eq_true]; rfl
    have f : uf 18444492273895866369 = 9221120237041090561 := by unfold uf; rw [u]; unfold ub; simp
    rw [e]
    exact ⟨u, by rw [f]; omega, by rw [f, rkq]⟩
end Go.Proofs.Ytoeddlcidbmppaa.Fl
