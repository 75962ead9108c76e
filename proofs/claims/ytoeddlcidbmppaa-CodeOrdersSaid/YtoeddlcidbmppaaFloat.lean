/- Contracts of the floats. -/
import Derived.Test.YtoeddlcidbmppaaLib
import Derived.Laws.Externs
import Derived.Laws.FloatArith
import Derived.Laws.BitsAllLaws
namespace Go.Proofs.Ytoeddlcidbmppaa.Fl
open Go.RowKit
set_option linter.unusedVariables false
/-- is it none? -/
def isnan (n : Nat) : Bool := FloatKind.f64.format.order n n != some .eq
def low (n : Nat) : Bool := decide (9223372036854775808 ≤ n)
/-- the rank -/
def rk (n : Nat) : Int := if isnan n then 18444492273895866369 else if low n then 18446744073709551615 - n else n + 9223372036854775808
theorem bits_run (n : Nat) (w : World) : (callFunc 28 #[.float .f64 n]).run Try.prog w = .ok (.value (.int .u64 n)) w := by
  rw [run_callFunc_extern (e := Extern.MathFloatBits.float64bits) Try.func28 (by kernel_rfl) (by kernel_rfl) (by kernel_rfl) (by kernel_rfl)]
  rfl
theorem frombits_run (n : Nat) (w : World) : (callFunc 19 #[.int .u64 (n : Int)]).run Try.prog w = .ok (.value (.float .f64 n)) w := by
  rw [run_callFunc_extern (e := Extern.MathFloatBits.float64frombits) Try.func19 (by kernel_rfl) (by kernel_rfl) (by kernel_rfl) (by kernel_rfl)]
  rfl
theorem nan_calls (n : Nat) (w : World) : Calls Try.prog 30 #[.float .f64 n] w (Quiet (.bool (isnan n)) w) := by
  go_enter Try.func30, Try.ntmps30
  go_wp2
  go_ret
  exact ⟨rfl, Drawn.refl _⟩
theorem below_calls (n : Nat) (w : World) : Calls Try.prog 31 #[.float .f64 n] w (Quiet (.bool (low n)) w) := by
  have h := bits_run n
  go_enter Try.func31, Try.ntmps31
  go_wp2
  go_ret
  exact ⟨ret_bool (by unfold low; exact decide_eq_decide.2 (by omega)), Drawn.refl _⟩
theorem xor_all (n : Nat) (hn : n < 18446744073709551616) : 18446744073709551615 ^^^ n = 18446744073709551615 - n := by
  have h := congrArg BitVec.toNat (BitVec.allOnes_xor (x := BitVec.ofNat 64 n))
  rw [BitVec.toNat_not, BitVec.toNat_xor, BitVec.toNat_allOnes, BitVec.toNat_ofNat, Nat.mod_eq_of_lt hn] at h
  exact h
theorem u64_not (n : Nat) (hn : n < 18446744073709551616) : bits .xor .u64 IntKind.u64.max (n : Int) = 18446744073709551615 - n := by
  have e : (IntKind.u64.max : Int) = ((18446744073709551615 : Nat) : Int) := by decide
  rw [e, u64_xor_nat _ _ (by decide) hn, xor_all n hn]
  omega
theorem Rank_calls (n : Nat) (w : World) (hn : n < 18446744073709551616) :
    Calls Try.prog 21 #[.float .f64 n] w (Quiet (.int .u64 (rk n)) w) := by
  have h := bits_run n
  have e1 := u64_not n hn
  have e2 : IntKind.u64.wrap ((n : Int) + 9223372036854775808) = if low n then (n : Int) - 9223372036854775808 else n + 9223372036854775808 := by
    rw [IntKind.wrap_u64]; unfold low; split <;> simp_all <;> omega
  go_enter Try.func21, Try.ntmps21
  go_wp2
  all_goals
    go_ret
    refine ⟨ret_int ?_, Drawn.refl _⟩
    unfold rk isnan low at *
  all_goals simp_all
  all_goals omega
theorem RefRank_calls (n : Nat) (w : World) (hn : n < 18446744073709551616) :
    Calls Try.prog 24 #[.float .f64 n] w (Quiet (.int .u64 (rk n)) w) := by
  have h := bits_run n
  have k1 := fun w => Lib.hid (nan_calls n w)
  have k2 := fun w => Lib.hid (below_calls n w)
  go_enter Try.func24, Try.ntmps24
  go_wp2_with (first | (go_at_call 30; (with_reducible refine ((k1 _).out).mono ?_); rintro e w' ⟨rfl, q, rfl⟩) | (go_at_call 31; (with_reducible refine ((k2 _).out).mono ?_); rintro e w' ⟨rfl, q, rfl⟩))
  all_goals
    go_ret
    refine ⟨ret_int ?_, ⟨_, rfl⟩⟩
    unfold rk
  all_goals simp_all
  all_goals (unfold low at *; simp_all)
  all_goals (try rw [IntKind.wrap_u64]) <;> omega
theorem rk_ge (n : Nat) (hn : n < 18446744073709551616) : 0 ≤ rk n ∧ rk n < 18446744073709551616 := by
  unfold rk low
  (repeat' split) <;> simp_all <;> omega
def lt (a b : Nat) : Bool := if isnan a || isnan b then !isnan a && isnan b else if FloatKind.f64.format.order a 0 == some .eq && FloatKind.f64.format.order b 0 == some .eq then low a && !low b else FloatKind.f64.format.order a b == some .lt
theorem RefLess_calls (a b : Nat) (w : World) :
    Calls Try.prog 29 #[.float .f64 a, .float .f64 b] w (Quiet (.bool (lt a b)) w) := by
  have k1 := fun w => Lib.hid (nan_calls a w)
  have k2 := fun w => Lib.hid (nan_calls b w)
  have k3 := fun w => Lib.hid (below_calls a w)
  have k4 := fun w => Lib.hid (below_calls b w)
  go_enter Try.func29, Try.ntmps29
  go_wp2_with (first | (go_at_call 30; (first | with_reducible refine ((k1 _).out).mono ?_ | with_reducible refine ((k2 _).out).mono ?_); rintro e w' ⟨rfl, q, rfl⟩) | (go_at_call 31; (first | with_reducible refine ((k3 _).out).mono ?_ | with_reducible refine ((k4 _).out).mono ?_); rintro e w' ⟨rfl, q, rfl⟩))
  all_goals
    go_ret
    refine ⟨ret_bool ?_, ⟨_, rfl⟩⟩
    unfold lt
    simp_all
theorem RefSame_calls (a b : Nat) (w : World) :
    Calls Try.prog 18 #[.float .f64 a, .float .f64 b] w (Quiet (.bool (!lt a b && !lt b a)) w) := by
  have k1 := fun w => Lib.hid (RefLess_calls a b w)
  have k2 := fun w => Lib.hid (RefLess_calls b a w)
  go_enter Try.func18, Try.ntmps18
  go_wp2_with (first | (go_at_call 29; (first | with_reducible refine ((k1 _).out).mono ?_ | with_reducible refine ((k2 _).out).mono ?_); rintro e w' ⟨rfl, q, rfl⟩))
  all_goals
    go_ret
    refine ⟨ret_bool ?_, ⟨_, rfl⟩⟩
    simp_all
/-- the bits of a rank -/
def ub (n : Int) : Nat := (if 9223372036854775808 ≤ n then n - 9223372036854775808 else 18446744073709551615 - n).toNat
def uok (n : Int) : Bool := n == 18444492273895866369 || !isnan (ub n)
def uf (n : Int) : Nat := if uok n then ub n else 0
theorem frombits_int (i : Int) (n : Nat) (h : i = n) (w : World) : (callFunc 19 #[.int .u64 i]).run Try.prog w = .ok (.value (.float .f64 n)) w := by
  subst h; exact frombits_run n w
theorem Unrank_calls (n : Int) (w : World) (hn : 0 ≤ n ∧ n < 18446744073709551616) :
    Calls Try.prog 32 #[.int .u64 n] w (Quiet (.tuple #[.float .f64 (uf n), .bool (uok n)]) w) := by
  obtain ⟨m, rfl⟩ := Int.eq_ofNat_of_zero_le hn.1
  have e1 := u64_not m (by omega)
  by_cases hm : m = 18444492273895866369
  · have eu : ub (m : Int) = 9221120237041090561 := by unfold ub; rw [if_pos (by omega)]; omega
    have h0 := fun w => frombits_int 9221120237041090561 (ub (m : Int)) (by rw [eu]; omega) w
    have e2 : uok (m : Int) = true := by unfold uok; rw [show ((m : Int) == 18444492273895866369) = true by (rw [beq_iff_eq]; omega)]; rfl
    have e3 : uf (m : Int) = ub (m : Int) := by unfold uf; rw [if_pos e2]
    rw [e2, e3]
    generalize ub (m : Int) = U at *
    have hm' : ((m : Int) == 18444492273895866369) = true := by rw [beq_iff_eq]; omega
    go_enter Try.func32, Try.ntmps32
    go_wp2
    all_goals
      go_ret2
      refine ⟨?_, ⟨0, rfl⟩⟩
      rw [eu]
      rfl
  · have hm' : ((m : Int) == 18444492273895866369) = false := by rw [beq_eq_false_iff_ne]; omega
    have e2 : uok (m : Int) = !isnan (ub (m : Int)) := by unfold uok; rw [hm']; rfl
    have e3 : uf (m : Int) = if isnan (ub (m : Int)) then 0 else ub (m : Int) := by unfold uf; rw [e2]; cases isnan (ub (m : Int)) <;> rfl
    rw [e2, e3]
    by_cases hh : 9223372036854775808 ≤ m
    · have e4 : IntKind.u64.wrap ((m : Int) - 9223372036854775808) = (m : Int) - 9223372036854775808 := by rw [IntKind.wrap_u64]; omega
      have h1 := fun w => frombits_int ((m : Int) - 9223372036854775808) (ub (m : Int)) (by unfold ub; rw [if_pos (by omega)]; omega) w
      have h2 : ((m : Int) / 9223372036854775808 == 1) = true := by rw [beq_iff_eq]; omega
      generalize ub (m : Int) = U at *
      unfold isnan
      go_enter Try.func32, Try.ntmps32
      go_wp2
      all_goals
        go_ret2
        refine ⟨?_, ⟨0, rfl⟩⟩
        simp_all
    · have h1 := fun w => frombits_int (18446744073709551615 - (m : Int)) (ub (m : Int)) (by unfold ub; rw [if_neg (by omega)]; omega) w
      have h2 : ((m : Int) / 9223372036854775808 == 1) = false := by rw [beq_eq_false_iff_ne]; omega
      generalize ub (m : Int) = U at *
      unfold isnan
      go_enter Try.func32, Try.ntmps32
      go_wp2
      all_goals
        go_ret2
        refine ⟨?_, ⟨0, rfl⟩⟩
        simp_all
theorem RefUnrank_calls (n : Int) (w : World) (hn : 0 ≤ n ∧ n < 18446744073709551616) :
    Calls Try.prog 27 #[.int .u64 n] w (Quiet (.tuple #[.float .f64 (uf n), .bool (uok n)]) w) := by
  obtain ⟨m, rfl⟩ := Int.eq_ofNat_of_zero_le hn.1
  have k1 := fun w => Lib.hid (nan_calls (ub (m : Int)) w)
  have E := hide (show uok (m : Int) = ((m : Int) == 18444492273895866369 || !isnan (ub (m : Int))) ∧ uf (m : Int) = if uok (m : Int) then ub (m : Int) else 0 from ⟨rfl, rfl⟩)
  have h2 := fun w => frombits_int (if 9223372036854775808 ≤ (m : Int) then (m : Int) - 9223372036854775808 else 18446744073709551615 - (m : Int)) (ub (m : Int)) (by unfold ub; split <;> omega) w
  by_cases hh : 9223372036854775808 ≤ (m : Int)
  · rw [if_pos hh] at h2
    generalize ub (m : Int) = U at *
    generalize isnan U = nn at *
    go_enter Try.func27, Try.ntmps27
    go_wp2_with (go_at_call 30; (with_reducible refine ((k1 _).out).mono ?_); rintro e w' ⟨rfl, q, rfl⟩)
    all_goals
      go_ret2
      refine ⟨?_, ⟨_, rfl⟩⟩
      obtain ⟨e2, e3⟩ := unhide E
      rw [e3, e2]
      simp_all
  · rw [if_neg hh] at h2
    have hd : decide (9223372036854775808 ≤ (m : Int)) = false := decide_eq_false hh
    have hm : m < 9223372036854775808 := by omega
    clear hh
    generalize ub (m : Int) = U at *
    generalize isnan U = nn at *
    go_enter Try.func27, Try.ntmps27
    go_wp2_with (go_at_call 30; (with_reducible refine ((k1 _).out).mono ?_); rintro e w' ⟨rfl, q, rfl⟩)
    all_goals
      go_ret2
      refine ⟨?_, ⟨_, rfl⟩⟩
      obtain ⟨e2, e3⟩ := unhide E
      rw [e3, e2]
      simp_all
end Go.Proofs.Ytoeddlcidbmppaa.Fl
