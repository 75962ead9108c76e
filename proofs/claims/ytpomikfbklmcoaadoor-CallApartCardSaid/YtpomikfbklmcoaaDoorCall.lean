/- What is wrong with a configuration. -/
import Derived.Test.YtpomikfbklmcoaaDoorLib
namespace Go.Proofs.YtpomikfbklmcoaaDoor.Conf
open Go.RowKit
set_option linter.unusedVariables false

def I64 (a : Int) : Prop := -9223372036854775808 ≤ a ∧ a ≤ 9223372036854775807
def mayE (k s t h b : Int) : Int :=
  if k < 1 ∨ 3 < k then 11
  else if s < 0 ∨ 1000 < s ∨ t < 1 ∨ 64 < t ∨ h < 0 ∨ 16 < h ∨ b < 0 ∨ 64 < b then 2
  else if k = 3 ∧ (s < 2 ∨ b < 1) then 2 else 0
theorem isMap_calls (k : Int) (w : World) (hk : I64 k) : Calls Tryd.prog 18 #[.int .i64 k] w (Quiet (.bool (decide (1 ≤ k) && decide (k ≤ 3))) w) := by
  unfold I64 at hk
  by_cases h1 : 1 ≤ k
  · have e : decide (1 ≤ k) = true := by simpa using h1
    rw [e]; clear e
    go_enter Tryd.func18, Tryd.ntmps18
    go_wp2
    go_ret
    exact ⟨rfl, Drawn.refl _⟩
  · have e : decide (1 ≤ k) = false := by simpa using h1
    rw [e]; clear e
    go_enter Tryd.func18, Tryd.ntmps18
    go_wp2
    go_ret
    exact ⟨rfl, Drawn.refl _⟩
set_option maxHeartbeats 1600000 in
theorem May_calls (k s t h b : Int) (w : World) (hk : I64 k) (hs : I64 s) (ht : I64 t) (hh : I64 h) (hb : I64 b) :
    Calls Tryd.prog 14 #[.agg #[.int .i64 k, .int .i64 s, .int .i64 t, .int .i64 h, .int .i64 b]] w (Fresh (.int .i64 (mayE k s t h b)) w) := by
  have k1 := fun w => isMap_calls k w hk
  unfold I64 at hk hs ht hh hb
  by_cases h0 : 1 ≤ k ∧ k ≤ 3
  · have e0 : (decide (1 ≤ k) && decide (k ≤ 3)) = true := by simp; omega
    rw [e0] at k1
    have K1 := fun w => Lib.hid (k1 w)
    clear k1 e0
    by_cases h3 : k = 3
    · subst h3
      go_enter Tryd.func14, Tryd.ntmps14
      go_wp2_with (go_at_call 18; (with_reducible refine ((K1 _).out).mono ?_); rintro e w' ⟨rfl, q, rfl⟩)
      go_ways
      all_goals
        go_ret
        refine ⟨ret_int ?_, (by repeat (first | with_reducible exact Below.refl _ _ | with_reducible refine below_drewN ?_ _ | with_reducible refine below_alloc ?_ (Nat.le_refl _) _ | (with_reducible refine Below.setCell ?_ ?h _; (case h => first | (dsimp only; omega) | (simp; done) | (simp; omega))) | with_reducible refine below_step ?_ (Nat.le_refl _) (by assumption)))⟩
        unfold mayE
        (repeat' split) <;> omega
    · have h4 : (k == 3) = false := by simpa using h3
      go_enter Tryd.func14, Tryd.ntmps14
      go_wp2_with (go_at_call 18; (with_reducible refine ((K1 _).out).mono ?_); rintro e w' ⟨rfl, q, rfl⟩)
      all_goals
        go_ret
        refine ⟨ret_int ?_, (by repeat (first | with_reducible exact Below.refl _ _ | with_reducible refine below_drewN ?_ _ | with_reducible refine below_alloc ?_ (Nat.le_refl _) _ | (with_reducible refine Below.setCell ?_ ?h _; (case h => first | (dsimp only; omega) | (simp; done) | (simp; omega))) | with_reducible refine below_step ?_ (Nat.le_refl _) (by assumption)))⟩
        unfold mayE
        (repeat' split) <;> omega
  · have e0 : (decide (1 ≤ k) && decide (k ≤ 3)) = false := by rw [← Bool.not_eq_true]; simp; omega
    rw [e0] at k1
    have K1 := fun w => Lib.hid (k1 w)
    clear k1 e0
    have h4 : (k == 3) = false := by simp; omega
    go_enter Tryd.func14, Tryd.ntmps14
    go_wp2_with (go_at_call 18; (with_reducible refine ((K1 _).out).mono ?_); rintro e w' ⟨rfl, q, rfl⟩)
    all_goals
      go_ret
      refine ⟨ret_int ?_, (by repeat (first | with_reducible exact Below.refl _ _ | with_reducible refine below_drewN ?_ _ | with_reducible refine below_alloc ?_ (Nat.le_refl _) _ | (with_reducible refine Below.setCell ?_ ?h _; (case h => first | (dsimp only; omega) | (simp; done) | (simp; omega))) | with_reducible refine below_step ?_ (Nat.le_refl _) (by assumption)))⟩
      unfold mayE
      (repeat' split) <;> omega
set_option maxHeartbeats 1600000 in
theorem RefMay_calls (k s t h b : Int) (w : World) (hk : I64 k) (hs : I64 s) (ht : I64 t) (hh : I64 h) (hb : I64 b) :
    Calls Tryd.prog 15 #[.agg #[.int .i64 k, .int .i64 s, .int .i64 t, .int .i64 h, .int .i64 b]] w (Fresh (.int .i64 (mayE k s t h b)) w) := by
  unfold I64 at hk hs ht hh hb
  by_cases h3 : k = 3
  · subst h3
    go_enter Tryd.func15, Tryd.ntmps15
    go_wp2
    all_goals
      go_ret
      refine ⟨ret_int ?_, (by repeat (first | with_reducible exact Below.refl _ _ | with_reducible refine below_drewN ?_ _ | with_reducible refine below_alloc ?_ (Nat.le_refl _) _ | (with_reducible refine Below.setCell ?_ ?h _; (case h => first | (dsimp only; omega) | (simp; done) | (simp; omega))) | with_reducible refine below_step ?_ (Nat.le_refl _) (by assumption)))⟩
      unfold mayE
      (repeat' split) <;> omega
  · have h4 : (k == 3) = false := by simpa using h3
    go_enter Tryd.func15, Tryd.ntmps15
    go_wp2
    all_goals
      go_ret
      refine ⟨ret_int ?_, (by repeat (first | with_reducible exact Below.refl _ _ | with_reducible refine below_drewN ?_ _ | with_reducible refine below_alloc ?_ (Nat.le_refl _) _ | (with_reducible refine Below.setCell ?_ ?h _; (case h => first | (dsimp only; omega) | (simp; done) | (simp; omega))) | with_reducible refine below_step ?_ (Nat.le_refl _) (by assumption)))⟩
      unfold mayE
      (repeat' split) <;> omega
end Go.Proofs.YtpomikfbklmcoaaDoor.Conf
