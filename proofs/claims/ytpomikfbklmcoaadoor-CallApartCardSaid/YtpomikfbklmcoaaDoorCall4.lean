/- The law of the cells. -/
import Derived.Test.YtpomikfbklmcoaaDoorCall3
import Derived.Deep.RegionHeld3
import Derived.Deep.DrawnRows
namespace Go.Proofs.YtpomikfbklmcoaaDoor.Conf
open Go.RowKit
set_option linter.unusedVariables false
attribute [local go_sem ↓] Go.wp_at_zero Go.wp_at_succ
theorem below_re {B n : Nat} {a w : World} (h : Below B a (w.drewN n)) (m : Nat) : Below B a (w.drewN (n + m)) := by
  rw [← World.drewN_drewN]; exact below_drewN h m
theorem h5 {a b c d e p : Prop} (h : a ∧ b ∧ c ∧ d ∧ e ∧ p) : p := h.2.2.2.2.2
theorem held_of {k s t h b : Int} {w x : World} (hb : Below (w.alloc (.cells #[.int .i64 k, .int .i64 s, .int .i64 t, .int .i64 h, .int .i64 b] 23)).heap.size (w.alloc (.cells #[.int .i64 k, .int .i64 s, .int .i64 t, .int .i64 h, .int .i64 b] 23)) x) : x.cell? ⟨w.heap.size, 0, none⟩ = some (.int .i64 k) ∧ x.cell? ⟨w.heap.size, 1, none⟩ = some (.int .i64 s) ∧ x.cell? ⟨w.heap.size, 2, none⟩ = some (.int .i64 t) ∧ x.cell? ⟨w.heap.size, 3, none⟩ = some (.int .i64 h) ∧ x.cell? ⟨w.heap.size, 4, none⟩ = some (.int .i64 b) ∧ Below (w.alloc (.cells #[.int .i64 k, .int .i64 s, .int .i64 t, .int .i64 h, .int .i64 b] 23)).heap.size (w.alloc (.cells #[.int .i64 k, .int .i64 s, .int .i64 t, .int .i64 h, .int .i64 b] 23)) x := by
  obtain ⟨c, _, _, _⟩ := bcell hb
  refine ⟨?_, ?_, ?_, ?_, ?_, hb⟩
  all_goals
    rw [c _ _ (by simp)]
    simp [go_sem]
set_option maxHeartbeats 1600000 in
theorem CallCells_calls (k s t h b i : Int) (w : World) (T : Tab2 w) (hk : I64 k) (hs : I64 s) (ht : I64 t) (hh : I64 h) (hb : I64 b) (hi : I64 i) :
    Calls Tryd.prog 3 #[.agg #[.int .i64 k, .int .i64 s, .int .i64 t, .int .i64 h, .int .i64 b], .int .i64 i] w (Fresh (.bool true) w) := by
  have k1 := fun w => Lib.hid (Cells_calls k s t h b w hk hs ht hh hb)
  have k2 := fun w => Lib.hid (RefCells_calls k s t h b w hk hs ht hh hb)
  have k3 := fun w => Lib.hid (Note_calls i w hi)
  have k4 := fun w => Lib.hid (RefNote_calls i w hi)
  have k5 := fun w => Lib.hid (Handle_calls k s t h b i w hk hs ht hh hb hi)
  have k6 := fun w => Lib.hid (RefHandle_calls k s t h b i w hk hs ht hh hb hi)
  generalize cellsOf k s t h b = X at *
  generalize 2 + bnd t 1 64 + bnd i 0 63 = Y at *
  generalize 2 + bnd i 0 63 = Z at *
  have T1 := hide (T.below (below_alloc (Below.refl _ w) (Nat.le_refl _) (.cells #[.int .i64 k, .int .i64 s, .int .i64 t, .int .i64 h, .int .i64 b] 23)))
  clear T
  go_enter Tryd.func3, Tryd.ntmps3
  go_wp2_with fail
  go_region_held3 (fun w' => w'.cell? ⟨w.heap.size, 0, none⟩ = some (.int .i64 k) ∧ w'.cell? ⟨w.heap.size, 1, none⟩ = some (.int .i64 s) ∧ w'.cell? ⟨w.heap.size, 2, none⟩ = some (.int .i64 t) ∧ w'.cell? ⟨w.heap.size, 3, none⟩ = some (.int .i64 h) ∧ w'.cell? ⟨w.heap.size, 4, none⟩ = some (.int .i64 b) ∧ Below (w.alloc (.cells #[.int .i64 k, .int .i64 s, .int .i64 t, .int .i64 h, .int .i64 b] 23)).heap.size (w.alloc (.cells #[.int .i64 k, .int .i64 s, .int .i64 t, .int .i64 h, .int .i64 b] 23)) w') ((first | exact held_of (Drawn.refl _).drew.below' | exact held_of (below_step (h5 (by assumption)) (Nat.le_refl _) hB) | exact held_of (below_re (h5 (by assumption)) _) | exact held_of (below_drewN (h5 (by assumption)) _))) (first | (go_at_call 5; (refine ((k1 _).out).mono ?_); rintro e w' ⟨rfl, hB⟩) | (go_at_call 6; (refine ((k2 _).out).mono ?_); rintro e w' ⟨rfl, hB⟩) | (go_at_call 7; (refine ((k3 _).out).mono ?_); rintro e w' ⟨rfl, q, rfl⟩) | (go_at_call 8; (refine ((k4 _).out).mono ?_); rintro e w' ⟨rfl, q, rfl⟩) | (go_at_call 9; (refine ((k5 _).out).mono ?_); rintro e w' ⟨rfl, hB⟩) | (go_at_call 10; (refine ((k6 _).out).mono ?_); rintro e w' ⟨rfl, hB⟩) | (go_at_call 11; (refine (works_calls _ ?_).mono ?_); (exact (unhide T1).below (h5 (by assumption))); rintro e w' ⟨rfl, hB⟩))
  all_goals
    go_wp2_with fail
    go_ret
    exact ⟨rfl, below_step (below_alloc (Below.refl _ _) (Nat.le_refl _) _) (Nat.le_refl _) (h5 (by assumption))⟩
end Go.Proofs.YtpomikfbklmcoaaDoor.Conf
