/- The cells of a configuration. -/
import Derived.Test.YtpomikfbklmcoaaDoorCall
namespace Go.Proofs.YtpomikfbklmcoaaDoor.Conf
open Go.RowKit
set_option linter.unusedVariables false

def bnd (i lo hi : Int) : Int := if i < lo ∨ hi < i then 0 else i
theorem bounded_calls (i lo hi : Int) (w : World) (h1 : I64 i) (h2 : I64 lo) (h3 : I64 hi) :
    Calls Tryd.prog 16 #[.int .i64 i, .int .i64 lo, .int .i64 hi] w (Quiet (.int .i64 (bnd i lo hi)) w) := by
  unfold I64 at h1 h2 h3
  go_enter Tryd.func16, Tryd.ntmps16
  go_wp2
  all_goals
    go_ret
    refine ⟨ret_int ?_, Drawn.refl _⟩
    unfold bnd
    (repeat' split) <;> omega
theorem bnd_in (i lo hi : Int) (h : 0 ≤ lo) (h' : lo ≤ hi) : 0 ≤ bnd i lo hi ∧ bnd i lo hi ≤ hi := by
  unfold bnd; split <;> omega
theorem Note_calls (i : Int) (w : World) (h1 : I64 i) :
    Calls Tryd.prog 7 #[.int .i64 i] w (Quiet (.int .i64 (2 + bnd i 0 63)) w) := by
  have k1 := fun w => Lib.hid (bounded_calls i 0 63 w h1 (by unfold I64; omega) (by unfold I64; omega))
  have hb := bnd_in i 0 63 (by omega) (by omega)
  generalize bnd i 0 63 = q at *
  go_enter Tryd.func7, Tryd.ntmps7
  go_wp2_with (go_at_call 16; (with_reducible refine ((k1 _).out).mono ?_); rintro e w' ⟨rfl, q, rfl⟩)
  go_ret
  exact ⟨rfl, ⟨_, rfl⟩⟩
theorem small_calls (i : Int) (w : World) (h1 : I64 i) :
    Calls Tryd.prog 17 #[.int .i64 i] w (Quiet (.int .i64 (bnd i 0 63)) w) := by
  unfold I64 at h1
  go_enter Tryd.func17, Tryd.ntmps17
  go_wp2
  all_goals
    go_ret
    refine ⟨ret_int ?_, Drawn.refl _⟩
    unfold bnd
    (repeat' split) <;> omega
theorem RefNote_calls (i : Int) (w : World) (h1 : I64 i) :
    Calls Tryd.prog 8 #[.int .i64 i] w (Quiet (.int .i64 (2 + bnd i 0 63)) w) := by
  have k1 := fun w => Lib.hid (small_calls i w h1)
  have hb := bnd_in i 0 63 (by omega) (by omega)
  generalize bnd i 0 63 = q at *
  go_enter Tryd.func8, Tryd.ntmps8
  go_wp2_with (go_at_call 17; (with_reducible refine ((k1 _).out).mono ?_); rintro e w' ⟨rfl, q, rfl⟩)
  go_ret
  exact ⟨rfl, ⟨_, rfl⟩⟩
theorem Handle_calls (k s t h b i : Int) (w : World) (hk : I64 k) (hs : I64 s) (ht : I64 t) (hh : I64 h) (hb : I64 b) (hi : I64 i) :
    Calls Tryd.prog 9 #[.agg #[.int .i64 k, .int .i64 s, .int .i64 t, .int .i64 h, .int .i64 b], .int .i64 i] w (Fresh (.int .i64 (2 + bnd t 1 64 + bnd i 0 63)) w) := by
  have k1 := fun w => Lib.hid (bounded_calls t 1 64 w ht (by unfold I64; omega) (by unfold I64; omega))
  have k2 := fun w => Lib.hid (bounded_calls i 0 63 w hi (by unfold I64; omega) (by unfold I64; omega))
  have hp := bnd_in t 1 64 (by omega) (by omega)
  have hq := bnd_in i 0 63 (by omega) (by omega)
  generalize bnd t 1 64 = p at *
  generalize bnd i 0 63 = q at *
  go_enter Tryd.func9, Tryd.ntmps9
  go_wp2_with (go_at_call 16; (first | with_reducible refine ((k1 _).out).mono ?_ | with_reducible refine ((k2 _).out).mono ?_); rintro e w' ⟨rfl, q, rfl⟩)
  go_ret
  exact ⟨ret_int (by omega), (by repeat (first | with_reducible exact Below.refl _ _ | with_reducible refine below_drewN ?_ _ | with_reducible refine below_alloc ?_ (Nat.le_refl _) _ | (with_reducible refine Below.setCell ?_ ?h _; (case h => first | (dsimp only; omega) | (simp; done) | (simp; omega))) | with_reducible refine below_step ?_ (Nat.le_refl _) (by assumption)))⟩
theorem RefHandle_calls (k s t h b i : Int) (w : World) (hk : I64 k) (hs : I64 s) (ht : I64 t) (hh : I64 h) (hb : I64 b) (hi : I64 i) :
    Calls Tryd.prog 10 #[.agg #[.int .i64 k, .int .i64 s, .int .i64 t, .int .i64 h, .int .i64 b], .int .i64 i] w (Fresh (.int .i64 (2 + bnd t 1 64 + bnd i 0 63)) w) := by
  have k2 := fun w => Lib.hid (small_calls i w hi)
  have hq := bnd_in i 0 63 (by omega) (by omega)
  generalize bnd i 0 63 = q at *
  unfold I64 at ht
  by_cases hT : 1 ≤ t ∧ t ≤ 64
  · obtain ⟨hT1, hT2⟩ := hT
    have e : bnd t 1 64 = t := by unfold bnd; rw [if_neg (by omega)]
    rw [e]
    go_enter Tryd.func10, Tryd.ntmps10
    go_wp2_with (go_at_call 17; (with_reducible refine ((k2 _).out).mono ?_); rintro e w' ⟨rfl, q, rfl⟩)
    go_quiet ((go_at_call 17; exact quiet_one (k2 _).out))
    go_wp2_with fail
    all_goals
      go_ret
      exact ⟨ret_int (by omega), (by repeat (first | with_reducible exact Below.refl _ _ | with_reducible refine below_drewN ?_ _ | with_reducible refine below_alloc ?_ (Nat.le_refl _) _ | (with_reducible refine Below.setCell ?_ ?h _; (case h => first | (dsimp only; omega) | (simp; done) | (simp; omega))) | with_reducible refine below_step ?_ (Nat.le_refl _) (by assumption)))⟩
  · have e : bnd t 1 64 = 0 := by unfold bnd; rw [if_pos (by omega)]
    rw [e]
    go_enter Tryd.func10, Tryd.ntmps10
    go_wp2_with (go_at_call 17; (with_reducible refine ((k2 _).out).mono ?_); rintro e w' ⟨rfl, q, rfl⟩)
    all_goals
      go_ret
      exact ⟨ret_int (by omega), (by repeat (first | with_reducible exact Below.refl _ _ | with_reducible refine below_drewN ?_ _ | with_reducible refine below_alloc ?_ (Nat.le_refl _) _ | (with_reducible refine Below.setCell ?_ ?h _; (case h => first | (dsimp only; omega) | (simp; done) | (simp; omega))) | with_reducible refine below_step ?_ (Nat.le_refl _) (by assumption)))⟩
def cellsOf (k s t h b : Int) : Int := if mayE k s t h b = 0 then 2 + t + h else 0
theorem may0 {k s t h b : Int} (e : mayE k s t h b = 0) : 1 ≤ t ∧ t ≤ 64 ∧ 0 ≤ h ∧ h ≤ 16 := by
  unfold mayE at e
  (repeat' split at e) <;> omega
theorem Cells_calls (k s t h b : Int) (w : World) (hk : I64 k) (hs : I64 s) (ht : I64 t) (hh : I64 h) (hb : I64 b) :
    Calls Tryd.prog 5 #[.agg #[.int .i64 k, .int .i64 s, .int .i64 t, .int .i64 h, .int .i64 b]] w (Fresh (.int .i64 (cellsOf k s t h b)) w) := by
  have k1 := fun w => Lib.hid (May_calls k s t h b w hk hs ht hh hb)
  unfold cellsOf
  by_cases e : mayE k s t h b = 0
  · have g := may0 e
    rw [e] at k1
    rw [if_pos e]
    clear e
    go_enter Tryd.func5, Tryd.ntmps5
    go_wp2_with (go_at_call 14; (with_reducible refine ((k1 _).out).mono ?_); rintro e w' ⟨rfl, hB⟩; obtain ⟨hbc, hbf, hbm, hbn⟩ := bcell hB)
    all_goals
      go_ret
      exact ⟨rfl, (by repeat (first | with_reducible exact Below.refl _ _ | with_reducible refine below_drewN ?_ _ | with_reducible refine below_alloc ?_ (Nat.le_refl _) _ | (with_reducible refine Below.setCell ?_ ?h _; (case h => first | (dsimp only; omega) | (simp; done) | (simp; omega))) | with_reducible refine below_step ?_ (Nat.le_refl _) (by assumption)))⟩
  · rw [if_neg e]
    generalize mayE k s t h b = M at *
    have e' : (M == 0) = false := by simpa using e
    go_enter Tryd.func5, Tryd.ntmps5
    go_wp2_with (go_at_call 14; (with_reducible refine ((k1 _).out).mono ?_); rintro e w' ⟨rfl, hB⟩; obtain ⟨hbc, hbf, hbm, hbn⟩ := bcell hB)
    all_goals
      go_ret
      exact ⟨rfl, (by repeat (first | with_reducible exact Below.refl _ _ | with_reducible refine below_drewN ?_ _ | with_reducible refine below_alloc ?_ (Nat.le_refl _) _ | (with_reducible refine Below.setCell ?_ ?h _; (case h => first | (dsimp only; omega) | (simp; done) | (simp; omega))) | with_reducible refine below_step ?_ (Nat.le_refl _) (by assumption)))⟩
theorem RefCells_calls (k s t h b : Int) (w : World) (hk : I64 k) (hs : I64 s) (ht : I64 t) (hh : I64 h) (hb : I64 b) :
    Calls Tryd.prog 6 #[.agg #[.int .i64 k, .int .i64 s, .int .i64 t, .int .i64 h, .int .i64 b]] w (Fresh (.int .i64 (cellsOf k s t h b)) w) := by
  have k1 := fun w => Lib.hid (RefMay_calls k s t h b w hk hs ht hh hb)
  unfold cellsOf
  by_cases e : mayE k s t h b = 0
  · have g := may0 e
    rw [e] at k1
    rw [if_pos e]
    clear e
    go_enter Tryd.func6, Tryd.ntmps6
    go_wp2_with (go_at_call 15; (with_reducible refine ((k1 _).out).mono ?_); rintro e w' ⟨rfl, hB⟩; obtain ⟨hbc, hbf, hbm, hbn⟩ := bcell hB)
    all_goals
      go_ret
      exact ⟨rfl, (by repeat (first | with_reducible exact Below.refl _ _ | with_reducible refine below_drewN ?_ _ | with_reducible refine below_alloc ?_ (Nat.le_refl _) _ | (with_reducible refine Below.setCell ?_ ?h _; (case h => first | (dsimp only; omega) | (simp; done) | (simp; omega))) | with_reducible refine below_step ?_ (Nat.le_refl _) (by assumption)))⟩
  · rw [if_neg e]
    generalize mayE k s t h b = M at *
    have e' : (M == 0) = false := by simpa using e
    go_enter Tryd.func6, Tryd.ntmps6
    go_wp2_with (go_at_call 15; (with_reducible refine ((k1 _).out).mono ?_); rintro e w' ⟨rfl, hB⟩; obtain ⟨hbc, hbf, hbm, hbn⟩ := bcell hB)
    all_goals
      go_ret
      exact ⟨rfl, (by repeat (first | with_reducible exact Below.refl _ _ | with_reducible refine below_drewN ?_ _ | with_reducible refine below_alloc ?_ (Nat.le_refl _) _ | (with_reducible refine Below.setCell ?_ ?h _; (case h => first | (dsimp only; omega) | (simp; done) | (simp; omega))) | with_reducible refine below_step ?_ (Nat.le_refl _) (by assumption)))⟩
end Go.Proofs.YtpomikfbklmcoaaDoor.Conf
