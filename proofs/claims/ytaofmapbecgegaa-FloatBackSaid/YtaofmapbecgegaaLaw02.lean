/- The laws of layer 2. -/
import Derived.Test.YtaofmapbecgegaaFloat2
namespace Go.Proofs.Ytaofmapbecgegaa.Fl
open Go.RowKit
set_option linter.unusedVariables false
set_option maxHeartbeats 800000 in
theorem FloatUnranks_calls (n : Int) (w : World) (hn : 0 ≤ n ∧ n ≤ 18446744073709551615) :
    Calls Try.prog 4 #[.int .u64 n] w (Fresh (.bool true) w) := by
  have k1 := fun w => Lib.hid (Unrank_calls n w (by omega))
  have k2 := fun w => Lib.hid (RefUnrank_calls n w (by omega))
  have k3 := fun w => Lib.hid (same_self (uf n) w)
  generalize uf n = F at *
  generalize uok n = U at *
  go_enter Try.func4, Try.ntmps4
  go_wp2_with (first
    | (go_at_call 15; (with_reducible refine ((k1 _).out).mono ?_); rintro e w' ⟨rfl, q, rfl⟩)
    | (go_at_call 16; (with_reducible refine ((k2 _).out).mono ?_); rintro e w' ⟨rfl, q, rfl⟩)
    | (go_at_call 13; (with_reducible refine ((k3 _).out).mono ?_); rintro e w' ⟨rfl, q, rfl⟩)
    | (go_at_call 14; (with_reducible refine (works_calls _).mono ?_); rintro e w' ⟨rfl, hB⟩; obtain ⟨hbc, hbf, hbm, hbn⟩ := bcell hB))
  all_goals
    go_ret
    exact ⟨(by first | rfl | exact ret_bool (by simp; omega)), (by repeat (first | exact Below.refl _ _ | refine below_drewN ?_ _ | refine below_alloc ?_ (Nat.le_refl _) _ | refine Below.setCell ?_ (by simp) _ | refine below_step ?_ (Nat.le_refl _) (by assumption)))⟩
theorem nanq : isnan 9221120237041090561 = true := by kernel_rfl
theorem rkq : rk 9221120237041090561 = 18444492273895866369 := by unfold rk; rw [nanq]; rfl
theorem back (x : Nat) (hx : x < 18446744073709551616) : uok (rk x) = true ∧ (uf (rk x) < 18446744073709551616) ∧ rk (uf (rk x)) = rk x := by
  cases h : isnan x
  · have e : ub (rk x) = x := by
      unfold ub rk low
      rw [h]
      by_cases hl : 9223372036854775808 ≤ x
      · simp only [Bool.false_eq_true, if_false, decide_eq_true hl, if_true]
        rw [if_neg (by omega)]; omega
      · simp only [Bool.false_eq_true, if_false, decide_eq_false hl]
        rw [if_pos (by omega)]; omega
    have u : uok (rk x) = true := by unfold uok; rw [e, h]; simp
    have f : uf (rk x) = x := by unfold uf; rw [u, e]; rfl
    exact ⟨u, by rw [f]; exact hx, by rw [f]⟩
  · have e : rk x = 18444492273895866369 := by unfold rk; rw [h]; rfl
    have u : uok 18444492273895866369 = true := by unfold uok; rw [beq_self_eq_true]; rfl
    have f : uf 18444492273895866369 = 9221120237041090561 := by unfold uf; rw [u]; unfold ub; simp
    rw [e]
    exact ⟨u, by rw [f]; omega, by rw [f, rkq]⟩
set_option maxHeartbeats 1600000 in
theorem FloatBack_calls (a b : Int) (w : World) (ha : 0 ≤ a ∧ a ≤ 18446744073709551615) (hb : 0 ≤ b ∧ b ≤ 18446744073709551615) :
    Calls Try.prog 6 #[.int .u64 a, .int .u64 b] w (Fresh (.bool true) w) := by
  obtain ⟨x, rfl⟩ := Int.eq_ofNat_of_zero_le ha.1
  obtain ⟨y, rfl⟩ := Int.eq_ofNat_of_zero_le hb.1
  have hx : x < 18446744073709551616 := by omega
  have hy : y < 18446744073709551616 := by omega
  have h1 := frombits_run x
  have h2 := frombits_run y
  have r1 := rk_ge x hx
  obtain ⟨b1, b2, b3⟩ := back x hx
  have k1 := fun w => Lib.hid (Rank_calls x w hx)
  have k2 := fun w => Lib.hid (Rank_calls y w hy)
  have k3 := fun w => Lib.hid (Unrank_calls (rk x) w r1)
  rw [b1] at k3
  have k4 := fun w => Lib.hid (Same_calls (uf (rk x)) x w b2 hx)
  rw [b3, beq_self_eq_true] at k4
  have k5 := fun w => Lib.hid (Less_calls x y w hx hy)
  have k6 := fun w => Lib.hid (Less_calls y x w hy hx)
  generalize uf (rk x) = F at *
  clear b1 b2 b3 r1 ha hb
  generalize rk x = X at *
  generalize rk y = Y at *
  go_enter Try.func6, Try.ntmps6
  go_wp2_with (first
    | (go_at_call 14; (with_reducible refine (works_calls _).mono ?_); rintro e w' ⟨rfl, hB⟩; obtain ⟨hbc, hbf, hbm, hbn⟩ := bcell hB)
    | (go_at_call 8; (first | with_reducible refine ((k1 _).out).mono ?_ | with_reducible refine ((k2 _).out).mono ?_); rintro e w' ⟨rfl, q, rfl⟩)
    | (go_at_call 15; (with_reducible refine ((k3 _).out).mono ?_); rintro e w' ⟨rfl, q, rfl⟩)
    | (go_at_call 12; (with_reducible refine ((k4 _).out).mono ?_); rintro e w' ⟨rfl, q, rfl⟩)
    | (go_at_call 10; (first | with_reducible refine ((k5 _).out).mono ?_ | with_reducible refine ((k6 _).out).mono ?_); rintro e w' ⟨rfl, q, rfl⟩))
  all_goals
    go_ret
    exact ⟨(by first | rfl | exact ret_bool (by simp; omega)), (by repeat (first | exact Below.refl _ _ | refine below_drewN ?_ _ | refine below_alloc ?_ (Nat.le_refl _) _ | refine Below.setCell ?_ (by simp) _ | refine below_step ?_ (Nat.le_refl _) (by assumption)))⟩
end Go.Proofs.Ytaofmapbecgegaa.Fl
