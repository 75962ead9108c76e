/- The chapter's examples. -/
import Derived.Test.YtaofmapbecgegaaFloat
namespace Go.Proofs.Ytaofmapbecgegaa.Fl
open Go.RowKit
set_option linter.unusedVariables false
theorem neg0_calls (w : World) : Calls Try.prog 29 #[.float .f64 0, .float .f64 13830554455654793216] w (Quiet (.float .f64 9223372036854775808) w) := by
  have h1 := fun w => bits_run 0 w
  have h2 := fun w => bits_run 13830554455654793216 w
  have h3 := fun w => frombits_int (bits BinOp.or IntKind.u64 (bits BinOp.andNot IntKind.u64 0 9223372036854775808) (bits BinOp.and IntKind.u64 13830554455654793216 9223372036854775808)) 9223372036854775808 (by kernel_rfl) w
  go_enter Try.func29, Try.ntmps29
  go_wp2
  all_goals
    go_ret
    exact ⟨rfl, ⟨0, rfl⟩⟩
theorem inf_calls (w : World) : Calls Try.prog 31 #[.int .i64 1] w (Quiet (.float .f64 9218868437227405312) w) := by
  have h3 := fun w => frombits_int 9218868437227405312 9218868437227405312 (by omega) w
  go_enter Try.func31, Try.ntmps31
  go_wp2
  all_goals
    go_ret
    exact ⟨rfl, ⟨0, rfl⟩⟩
theorem none_calls (w : World) : Calls Try.prog 30 #[] w (Quiet (.float .f64 9221120237041090561) w) := by
  have h3 := fun w => frombits_int 9221120237041090561 9221120237041090561 (by omega) w
  go_enter Try.func30, Try.ntmps30
  go_wp2
  all_goals
    go_ret
    exact ⟨rfl, ⟨0, rfl⟩⟩
theorem nan0 : isnan 0 = false := by kernel_rfl
theorem nanm : isnan 9223372036854775808 = false := by kernel_rfl
theorem low0 : low 0 = false := by unfold low; exact decide_eq_false (by omega)
theorem lowm : low 9223372036854775808 = true := by unfold low; exact decide_eq_true (by omega)
theorem rk0 : rk 0 = 9223372036854775808 := by unfold rk; rw [nan0, low0]; rfl
theorem rkm : rk 9223372036854775808 = 9223372036854775807 := by unfold rk; rw [nanm, lowm]; simp
theorem less1 (w : World) : Calls Try.prog 10 #[.float .f64 9223372036854775808, .float .f64 0] w (Quiet (.bool true) w) := by
  have h := Less_calls 9223372036854775808 0 w (by omega) (by omega)
  rw [rk0, rkm] at h
  exact h
theorem less2 (w : World) : Calls Try.prog 10 #[.float .f64 0, .float .f64 9223372036854775808] w (Quiet (.bool false) w) := by
  have h := Less_calls 0 9223372036854775808 w (by omega) (by omega)
  rw [rk0, rkm] at h
  exact h
theorem lt_self (a : Nat) : lt a a = false := by
  unfold lt
  cases h : isnan a
  · have h' := h
    unfold isnan at h'
    simp at h'
    simp [h']
  · simp
theorem same_self (a : Nat) (w : World) : Calls Try.prog 13 #[.float .f64 a, .float .f64 a] w (Quiet (.bool true) w) := by
  have h := RefSame_calls a a w
  rw [lt_self] at h
  exact h
theorem mean0_calls (w : World) : Calls Try.prog 24 #[.slice none 0 0] w (Quiet (.float .f64 9221120237041090561) w) := by
  go_enter Try.func24, Try.ntmps24
  go_wp2_with (go_at_call 30; (with_reducible refine (none_calls _).mono ?_); rintro e w' ⟨rfl, q, rfl⟩)
  all_goals
    go_ret
    exact ⟨rfl, ⟨_, rfl⟩⟩
theorem least0_calls (w : World) : Calls Try.prog 18 #[.slice none 0 0] w (Quiet (.float .f64 9218868437227405312) w) := by
  go_enter Try.func18, Try.ntmps18
  go_wp2_with (go_at_call 31; (with_reducible refine (inf_calls _).mono ?_); rintro e w' ⟨rfl, q, rfl⟩)
  all_goals
    go_ret
    exact ⟨rfl, ⟨_, rfl⟩⟩
theorem sum1_calls (b o : Nat) (w : World) (hc : w.cell? ⟨b, o, none⟩ = some (.float .f64 9223372036854775808)) : Calls Try.prog 22 #[.slice (some ⟨b, o, none⟩) 1 1] w (Quiet (.float .f64 9223372036854775808) w) := by
  go_enter Try.func22, Try.ntmps22
  go_wp2
  go_loopw [3, 15] (fun x i wr => x = .float .f64 9223372036854775808 ∧ i = .int .i64 0 ∧ wr = w) (fun _ _ _ => 0)
  case atStart => exact ⟨rfl, rfl, rfl⟩
  case round =>
    obtain ⟨rfl, rfl, rfl⟩ := hrel
    go_wp2
    go_ret
    exact ⟨rfl, Drawn.refl _⟩
theorem div1 : floatBits .quo .f64 9223372036854775808 (floatOfInt .f64 1) = some 9223372036854775808 := by kernel_rfl
theorem mean1_calls (b o : Nat) (w : World) (hc : w.cell? ⟨b, o, none⟩ = some (.float .f64 9223372036854775808)) : Calls Try.prog 24 #[.slice (some ⟨b, o, none⟩) 1 1] w (Quiet (.float .f64 9223372036854775808) w) := by
  have k1 := Lib.hid (sum1_calls b o w hc)
  have hd := fun t w => run_float_arith (P := Try.prog) w .quo t .f64 _ _ _ div1
  go_enter Try.func24, Try.ntmps24
  go_wp2_with (first | (go_at_call 22; (with_reducible refine (k1.out).mono ?_); rintro e w' ⟨rfl, q, rfl⟩))
  all_goals
    go_ret
    exact ⟨rfl, ⟨_, rfl⟩⟩
theorem mean1_at (w : World) (n : Nat) : Calls Try.prog 24 #[.slice (some ⟨w.heap.size, 0, none⟩) 1 1] ((w.drewN n).alloc (.cells #[.float .f64 9223372036854775808] 23)) (Quiet (.float .f64 9223372036854775808) ((w.drewN n).alloc (.cells #[.float .f64 9223372036854775808] 23))) :=
  mean1_calls _ _ _ (by
    show ((w.drewN n).alloc (.cells #[.float .f64 9223372036854775808] 23)).cell? ⟨(w.drewN n).heap.size, 0, none⟩ = _
    generalize w.drewN n = W
    simp [go_sem])
theorem works_calls (w : World) : Calls Try.prog 14 #[] w (Fresh (.bool true) w) := by
  have k1 := fun w => Lib.hid (less1 w)
  have k2 := fun w => Lib.hid (less2 w)
  have k3 := fun w => Lib.hid (mean0_calls w)
  have k4 := fun w => Lib.hid (same_self 9221120237041090561 w)
  have k5 := fun w => Lib.hid (same_self 9223372036854775808 w)
  have k6 := fun w => Lib.hid (same_self 9218868437227405312 w)
  have k7 := fun w => Lib.hid (least0_calls w)
  have k8 := fun n => Lib.hid (mean1_at w n)
  go_enter Try.func14, Try.ntmps14
  go_wp2_with (first
    | (go_at_call 29; (with_reducible refine (neg0_calls _).mono ?_); rintro e w' ⟨rfl, q, rfl⟩)
    | (go_at_call 30; (with_reducible refine (none_calls _).mono ?_); rintro e w' ⟨rfl, q, rfl⟩)
    | (go_at_call 31; (with_reducible refine (inf_calls _).mono ?_); rintro e w' ⟨rfl, q, rfl⟩)
    | (go_at_call 10; (first | with_reducible refine ((k1 _).out).mono ?_ | with_reducible refine ((k2 _).out).mono ?_); rintro e w' ⟨rfl, q, rfl⟩)
    | (go_at_call 24; (with_reducible refine (k3 _).out.mono ?_); rintro e w' ⟨rfl, q, rfl⟩)
    | (go_at_call 24; (with_reducible refine (k8 _).out.mono ?_); rintro e w' ⟨rfl, q, rfl⟩)
    | (go_at_call 18; (with_reducible refine ((k7 _).out).mono ?_); rintro e w' ⟨rfl, q, rfl⟩)
    | (go_at_call 13; (first | with_reducible refine ((k4 _).out).mono ?_ | with_reducible refine ((k5 _).out).mono ?_ | with_reducible refine ((k6 _).out).mono ?_); rintro e w' ⟨rfl, q, rfl⟩))
  go_ret
  refine ⟨rfl, ?_⟩
  exact (by repeat (first | with_reducible exact Below.refl _ _ | with_reducible refine below_drewN ?_ _ | with_reducible refine below_alloc ?_ (Nat.le_refl _) _ | (with_reducible refine Below.setCell ?_ ?h _; (case h => first | (dsimp only; omega) | (simp; done) | (simp; omega))) | with_reducible refine below_step ?_ (Nat.le_refl _) (by assumption)))
end Go.Proofs.Ytaofmapbecgegaa.Fl
