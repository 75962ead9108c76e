/- The example of the chapter, and the law of the cells. -/
import Derived.Test.YtpomikfbklmcoaaDoorCall2
namespace Go.Proofs.YtpomikfbklmcoaaDoor.Conf
open Go.RowKit
set_option linter.unusedVariables false
/-- The row of the table for a Put. -/
def Tab2 (w : World) : Prop := w.cell? ⟨0, 8, none⟩ = some (.bool true) ∧ w.cell? ⟨0, 9, none⟩ = some (.bool true) ∧ w.cell? ⟨0, 10, none⟩ = some (.bool false) ∧ w.cell? ⟨0, 11, none⟩ = some (.bool false)
theorem Tab2.below {w w' : World} (h : Tab2 w) (b : Below w.heap.size w w') : Tab2 w' := by
  have h0 : 0 < w.heap.size := World.block_lt_of_cell? w _ h.1
  obtain ⟨c, _, _, _⟩ := bcell b
  unfold Tab2
  rw [c _ _ h0, c _ _ h0, c _ _ h0, c _ _ h0]
  exact h
theorem isOp_calls (k : Int) (w : World) (hk : I64 k) : Calls Tryd.prog 19 #[.int .i64 k] w (Quiet (.bool (decide (1 ≤ k ∧ k ≤ 13))) w) := by
  unfold I64 at hk
  by_cases h1 : 1 ≤ k
  · by_cases h2 : k ≤ 13
    · rw [decide_eq_true ⟨h1, h2⟩]
      go_enter Tryd.func19, Tryd.ntmps19
      go_wp2
      all_goals
        go_ret
        exact ⟨rfl, Drawn.refl _⟩
    · rw [decide_eq_false (by omega)]
      go_enter Tryd.func19, Tryd.ntmps19
      go_wp2
      all_goals
        go_ret
        exact ⟨rfl, Drawn.refl _⟩
  · rw [decide_eq_false (by omega)]
    go_enter Tryd.func19, Tryd.ntmps19
    go_wp2
    all_goals
      go_ret
      exact ⟨rfl, Drawn.refl _⟩
theorem isOp2 (w : World) : Calls Tryd.prog 19 #[.int .i64 2] w (Quiet (.bool true) w) := isOp_calls 2 w (by unfold I64; omega)
theorem isOp0 (w : World) : Calls Tryd.prog 19 #[.int .i64 0] w (Quiet (.bool false) w) := isOp_calls 0 w (by unfold I64; omega)
set_option maxHeartbeats 1600000 in
theorem Plain2_calls (w : World) (T : Tab2 w) :
    Calls Tryd.prog 13 #[.agg #[.int .i64 2, .string ⟨#[97]⟩, .string ⟨#[49]⟩, .string ⟨#[]⟩, .int .i64 5]] w (Fresh (.agg #[.int .i64 2, .string ⟨#[97]⟩, .string ⟨#[49]⟩, .string ⟨#[]⟩, .int .i64 0]) w) := by
  have h0 : 0 < w.heap.size := World.block_lt_of_cell? w _ T.1
  obtain ⟨t1, t2, t3, t4⟩ := T
  have k1 := fun w => Lib.hid (isOp2 w)
  go_enter Tryd.func13, Tryd.ntmps13
  go_wp2_with (go_at_call 19; (with_reducible refine ((k1 _).out).mono ?_); rintro e w' ⟨rfl, q, rfl⟩)
  refine bodyPost_ret (v := .agg #[.int .i64 2, .string ⟨#[97]⟩, .string ⟨#[49]⟩, .string ⟨#[]⟩, .int .i64 0]) (by simp [results, Tryd.results13, go_sem]) rfl ⟨rfl, ?_⟩
  exact (by repeat (first | with_reducible exact Below.refl _ _ | with_reducible refine below_drewN ?_ _ | with_reducible refine below_alloc ?_ (Nat.le_refl _) _ | (with_reducible refine Below.setCell ?_ ?h _; (case h => first | (dsimp only; omega) | (simp; done) | (simp; omega))) | with_reducible refine below_step ?_ (Nat.le_refl _) (by assumption)))
set_option maxHeartbeats 1600000 in
theorem Plain0_calls (w : World) :
    Calls Tryd.prog 13 #[.agg #[.int .i64 0, .string ⟨#[]⟩, .string ⟨#[]⟩, .string ⟨#[]⟩, .int .i64 0]] w (Fresh (.agg #[.int .i64 0, .string ⟨#[]⟩, .string ⟨#[]⟩, .string ⟨#[]⟩, .int .i64 0]) w) := by
  have k1 := fun w => Lib.hid (isOp0 w)
  go_enter Tryd.func13, Tryd.ntmps13
  go_wp2_with (go_at_call 19; (with_reducible refine ((k1 _).out).mono ?_); rintro e w' ⟨rfl, q, rfl⟩)
  refine bodyPost_ret (v := .agg #[.int .i64 0, .string ⟨#[]⟩, .string ⟨#[]⟩, .string ⟨#[]⟩, .int .i64 0]) (by simp [results, Tryd.results13, go_sem]) rfl ⟨rfl, ?_⟩
  exact (by repeat (first | with_reducible exact Below.refl _ _ | with_reducible refine below_drewN ?_ _ | with_reducible refine below_alloc ?_ (Nat.le_refl _) _ | (with_reducible refine Below.setCell ?_ ?h _; (case h => first | (dsimp only; omega) | (simp; done) | (simp; omega))) | with_reducible refine below_step ?_ (Nat.le_refl _) (by assumption)))
theorem isMap1 (w : World) : Calls Tryd.prog 18 #[.int .i64 1] w (Quiet (.bool true) w) := isMap_calls 1 w (by unfold I64; omega)
set_option maxHeartbeats 1600000 in
theorem Fits2_calls (w : World) (T : Tab2 w) :
    Calls Tryd.prog 12 #[.agg #[.int .i64 1, .int .i64 9, .int .i64 2, .int .i64 1, .int .i64 4], .agg #[.int .i64 2, .string ⟨#[97]⟩, .string ⟨#[49]⟩, .string ⟨#[]⟩, .int .i64 5]] w (Fresh (.int .i64 0) w) := by
  have k1 := fun w => Lib.hid (isOp2 w)
  have k2 := fun w => Lib.hid (isMap1 w)
  go_enter Tryd.func12, Tryd.ntmps12
  go_wp2_with (first | (go_at_call 19; (with_reducible refine ((k1 _).out).mono ?_); rintro e w' ⟨rfl, q, rfl⟩) | (go_at_call 18; (with_reducible refine ((k2 _).out).mono ?_); rintro e w' ⟨rfl, q, rfl⟩) | (go_at_call 13; (with_reducible refine (Plain2_calls _ (T.below (by repeat (first | with_reducible exact Below.refl _ _ | with_reducible refine below_drewN ?_ _ | with_reducible refine below_alloc ?_ (Nat.le_refl _) _ | (with_reducible refine Below.setCell ?_ ?h _; (case h => first | (dsimp only; omega) | (simp; done) | (simp; omega))) | with_reducible refine below_step ?_ (Nat.le_refl _) (by assumption))))).mono ?_); rintro e w' ⟨rfl, hB⟩; obtain ⟨hbc, hbf, hbm, hbn⟩ := bcell hB; have c1 : w'.cell? ⟨w.heap.size, 0, none⟩ = some (.int .i64 1) := (hbc _ _ (by simp <;> omega)).trans (by simp [go_sem]); have c2 : w'.cell? ⟨w.heap.size + 1, 0, none⟩ = some (.int .i64 2) := (hbc _ _ (by simp <;> omega)).trans (by simp [go_sem]); have l1 : w.heap.size < w'.heap.size := hbm _ (by simp <;> omega); have l2 : w.heap.size + 1 < w'.heap.size := hbm _ (by simp <;> omega); clear hbc hbf hbm hbn))
  all_goals
    go_ret
    exact ⟨rfl, (by repeat (first | with_reducible exact Below.refl _ _ | with_reducible refine below_drewN ?_ _ | with_reducible refine below_alloc ?_ (Nat.le_refl _) _ | (with_reducible refine Below.setCell ?_ ?h _; (case h => first | (dsimp only; omega) | (simp; done) | (simp; omega))) | with_reducible refine below_step ?_ (Nat.le_refl _) (by assumption)))⟩
set_option maxHeartbeats 1600000 in
theorem Fits0_calls (w : World) :
    Calls Tryd.prog 12 #[.agg #[.int .i64 1, .int .i64 9, .int .i64 2, .int .i64 1, .int .i64 4], .agg #[.int .i64 0, .string ⟨#[]⟩, .string ⟨#[]⟩, .string ⟨#[]⟩, .int .i64 0]] w (Fresh (.int .i64 11) w) := by
  have k1 := fun w => Lib.hid (isOp0 w)
  have k2 := fun w => Lib.hid (isMap1 w)
  have k3 := fun w => Lib.hid (Plain0_calls w)
  go_enter Tryd.func12, Tryd.ntmps12
  go_wp2_with (first | (go_at_call 19; (with_reducible refine ((k1 _).out).mono ?_); rintro e w' ⟨rfl, q, rfl⟩) | (go_at_call 18; (with_reducible refine ((k2 _).out).mono ?_); rintro e w' ⟨rfl, q, rfl⟩) | (go_at_call 13; (with_reducible refine ((k3 _).out).mono ?_); rintro e w' ⟨rfl, hB⟩; obtain ⟨hbc, hbf, hbm, hbn⟩ := bcell hB; have c1 : w'.cell? ⟨w.heap.size, 0, none⟩ = some (.int .i64 1) := (hbc _ _ (by simp <;> omega)).trans (by simp [go_sem]); have c2 : w'.cell? ⟨w.heap.size + 1, 0, none⟩ = some (.int .i64 0) := (hbc _ _ (by simp <;> omega)).trans (by simp [go_sem]); have l1 : w.heap.size < w'.heap.size := hbm _ (by simp <;> omega); have l2 : w.heap.size + 1 < w'.heap.size := hbm _ (by simp <;> omega); clear hbc hbf hbm hbn))
  all_goals
    go_ret
    exact ⟨rfl, (by repeat (first | with_reducible exact Below.refl _ _ | with_reducible refine below_drewN ?_ _ | with_reducible refine below_alloc ?_ (Nat.le_refl _) _ | (with_reducible refine Below.setCell ?_ ?h _; (case h => first | (dsimp only; omega) | (simp; done) | (simp; omega))) | with_reducible refine below_step ?_ (Nat.le_refl _) (by assumption)))⟩
theorem May1 (w : World) : Calls Tryd.prog 14 #[.agg #[.int .i64 1, .int .i64 9, .int .i64 2, .int .i64 1, .int .i64 4]] w (Fresh (.int .i64 0) w) := May_calls 1 9 2 1 4 w (by unfold I64; omega) (by unfold I64; omega) (by unfold I64; omega) (by unfold I64; omega) (by unfold I64; omega)
theorem Cells1 (w : World) : Calls Tryd.prog 5 #[.agg #[.int .i64 1, .int .i64 9, .int .i64 2, .int .i64 1, .int .i64 4]] w (Fresh (.int .i64 5) w) := Cells_calls 1 9 2 1 4 w (by unfold I64; omega) (by unfold I64; omega) (by unfold I64; omega) (by unfold I64; omega) (by unfold I64; omega)
set_option maxHeartbeats 1600000 in
theorem works_calls (w : World) (T : Tab2 w) : Calls Tryd.prog 11 #[] w (Fresh (.bool true) w) := by
  have k1 := fun w => Lib.hid (May1 w)
  have k2 := fun w => Lib.hid (Cells1 w)
  have k3 := fun w => Lib.hid (Fits0_calls w)
  have T0 := T.below (below_alloc (below_alloc (Below.refl _ w) (Nat.le_refl _) (.cells #[.int .i64 2, .string ⟨#[97]⟩, .string ⟨#[49]⟩, .string ⟨#[]⟩, .int .i64 5] 30)) (Nat.le_refl _) (.cells #[.int .i64 1, .int .i64 9, .int .i64 2, .int .i64 1, .int .i64 4] 23))
  have HR := Below.refl ((w.alloc (.cells #[.int .i64 2, .string ⟨#[97]⟩, .string ⟨#[49]⟩, .string ⟨#[]⟩, .int .i64 5] 30)).alloc (.cells #[.int .i64 1, .int .i64 9, .int .i64 2, .int .i64 1, .int .i64 4] 23)).heap.size ((w.alloc (.cells #[.int .i64 2, .string ⟨#[97]⟩, .string ⟨#[49]⟩, .string ⟨#[]⟩, .int .i64 5] 30)).alloc (.cells #[.int .i64 1, .int .i64 9, .int .i64 2, .int .i64 1, .int .i64 4] 23))
  have T1 := hide T0
  clear T0 T
  have z1 : w.heap.size < w.heap.size + 1 + 1 := by omega
  have z2 : w.heap.size + 1 < w.heap.size + 1 + 1 := by omega
  go_enter Tryd.func11, Tryd.ntmps11
  go_wp2_with (first | (go_at_call 14; (with_reducible refine ((k1 _).out).mono ?_); rintro e w' ⟨rfl, hB⟩; have HR2 := below_via HR (Nat.le_refl _) (by repeat (first | with_reducible exact Below.refl _ _ | with_reducible refine below_drewN ?_ _ | with_reducible refine below_drew ?_ | with_reducible refine below_alloc ?_ (Nat.le_refl _) _)) hB; clear HR hB; (try clear hbc hbf hbm hbn); have HR := HR2; clear HR2; obtain ⟨hbc, hbf, hbm, hbn⟩ := bcell HR) | (go_at_call 5; (with_reducible refine ((k2 _).out).mono ?_); rintro e w' ⟨rfl, hB⟩; have HR2 := below_via HR (Nat.le_refl _) (by repeat (first | with_reducible exact Below.refl _ _ | with_reducible refine below_drewN ?_ _ | with_reducible refine below_drew ?_ | with_reducible refine below_alloc ?_ (Nat.le_refl _) _)) hB; clear HR hB; (try clear hbc hbf hbm hbn); have HR := HR2; clear HR2; obtain ⟨hbc, hbf, hbm, hbn⟩ := bcell HR) | (go_at_call 12; (with_reducible refine ((k3 _).out).mono ?_); rintro e w' ⟨rfl, hB⟩; have HR2 := below_via HR (Nat.le_refl _) (by repeat (first | with_reducible exact Below.refl _ _ | with_reducible refine below_drewN ?_ _ | with_reducible refine below_drew ?_ | with_reducible refine below_alloc ?_ (Nat.le_refl _) _)) hB; clear HR hB; (try clear hbc hbf hbm hbn); have HR := HR2; clear HR2; obtain ⟨hbc, hbf, hbm, hbn⟩ := bcell HR) | (go_at_call 12; (with_reducible refine (Fits2_calls _ ((unhide T1).below (by repeat (first | with_reducible exact HR | with_reducible refine below_drewN ?_ _ | with_reducible refine below_alloc ?_ (Nat.le_refl _) _)))).mono ?_); rintro e w' ⟨rfl, hB⟩; have HR2 := below_step (by repeat (first | exact HR | refine below_drewN ?_ _ | refine below_alloc ?_ (Nat.le_refl _) _)) (Nat.le_refl _) hB; clear HR hB; (try clear hbc hbf hbm hbn); have HR := HR2; clear HR2; obtain ⟨hbc, hbf, hbm, hbn⟩ := bcell HR) | (go_at_call 13; (with_reducible refine (Plain2_calls _ ((unhide T1).below (by repeat (first | with_reducible exact HR | with_reducible refine below_drewN ?_ _ | with_reducible refine below_alloc ?_ (Nat.le_refl _) _)))).mono ?_); rintro e w' ⟨rfl, hB⟩; have HR2 := below_step (by repeat (first | exact HR | refine below_drewN ?_ _ | refine below_alloc ?_ (Nat.le_refl _) _)) (Nat.le_refl _) hB; clear HR hB; (try clear hbc hbf hbm hbn); have HR := HR2; clear HR2; obtain ⟨hbc, hbf, hbm, hbn⟩ := bcell HR))
  all_goals
    go_ret
    exact ⟨rfl, below_step (by repeat (first | with_reducible exact Below.refl _ _ | with_reducible refine below_drewN ?_ _ | with_reducible refine below_alloc ?_ (Nat.le_refl _) _ | (with_reducible refine Below.setCell ?_ ?h _; (case h => first | (dsimp only; omega) | (simp; done) | (simp; omega))) | with_reducible refine below_step ?_ (Nat.le_refl _) (by assumption))) (Nat.le_refl _) HR⟩
end Go.Proofs.YtpomikfbklmcoaaDoor.Conf
